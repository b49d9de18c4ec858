/- Package drive: the reference's drive in memory. -/
import Derived.Test.YthoafaaemikiaaaDvRef
import Derived.Test.YthoafaaemikiaaaDvSure0
import Derived.Maps.AppendAt
import Derived.StillTailTactics
import Derived.Laws.OwnMore
namespace Go.Proofs.Ythoafaaemikiaaa.Dv
open Go Go.RowKit Rf
abbrev TRD : TypeId := 46
abbrev TStr : TypeId := 9
abbrev TInt : TypeId := 3
/-- A sector's text. -/
def bs (s : Sec) : ByteArray := ⟨s.toArray⟩
def strs (L : List Sec) : List Value := L.map fun s => .string (bs s)
def nats (L : List Nat) : List Value := L.map fun n : Nat => .int .i64 (n : Int)
def Sep (a b : Value) : Prop := ∀ j, a.ownBlock = some j → b.ownBlock ≠ some j
theorem Sep.symm {a b : Value} (h : Sep a b) : Sep b a := fun j h1 h2 => h j h2 h1
theorem Sep.ne {a b : Value} (h : Sep a b) : a.ownBlock = none ∨ a.ownBlock ≠ b.ownBlock := by
  cases e : a.ownBlock with
  | none => exact Or.inl rfl
  | some j => exact Or.inr fun e2 => h j e e2.symm
/-- Its parts. -/
structure RDv (w : World) (g : Nat) (nv sv av ov : Value) (N D : List Sec) (A : List Nat) (O : List Sec) (F : Option Nat) : Prop where
  blk : Rw w g TRD [nv, sv, av, ov, .int .i64 (fcell F)]
  now : w.ownsRow 0 TStr 1 nv N.length (strs N)
  sure : w.ownsRow 0 TStr 1 sv D.length (strs D)
  at_ : w.ownsRow 0 TInt 1 av A.length (nats A)
  op : w.ownsRow 0 TStr 1 ov O.length (strs O)
  ns : Sep nv sv
  no : Sep nv ov
  so : Sep sv ov
def Bq (g : Nat) (nv sv av ov : Value) (k : Nat) : Prop := k = g ∨ nv.ownBlock = some k ∨ sv.ownBlock = some k ∨ av.ownBlock = some k ∨ ov.ownBlock = some k
section
variable {w w' : World} {g : Nat} {nv sv av ov : Value} {N D : List Sec} {A : List Nat} {O : List Sec} {F : Option Nat}
theorem RDv.an (h : RDv w g nv sv av ov N D A O F) : Sep av nv := fun j h1 => own_own h.at_ h.now (by decide) j h1
theorem RDv.as (h : RDv w g nv sv av ov N D A O F) : Sep av sv := fun j h1 => own_own h.at_ h.sure (by decide) j h1
theorem RDv.ao (h : RDv w g nv sv av ov N D A O F) : Sep av ov := fun j h1 => own_own h.at_ h.op (by decide) j h1
theorem RDv.gn (h : RDv w g nv sv av ov N D A O F) : nv.ownBlock ≠ some g := own_type h.now h.blk (by decide)
theorem RDv.gs (h : RDv w g nv sv av ov N D A O F) : sv.ownBlock ≠ some g := own_type h.sure h.blk (by decide)
theorem RDv.ga (h : RDv w g nv sv av ov N D A O F) : av.ownBlock ≠ some g := own_type h.at_ h.blk (by decide)
theorem RDv.go (h : RDv w g nv sv av ov N D A O F) : ov.ownBlock ≠ some g := own_type h.op h.blk (by decide)
theorem RDv.keeps {T : Nat → Prop} (h : RDv w g nv sv av ov N D A O F) (k : Keeps T w w') (hT : ∀ j, Bq g nv sv av ov j → ¬ T j) : RDv w' g nv sv av ov N D A O F :=
  ⟨h.blk.keeps k (hT g (.inl rfl)), own_keeps h.now k fun j hj => hT j (.inr (.inl hj)), own_keeps h.sure k fun j hj => hT j (.inr (.inr (.inl hj))), own_keeps h.at_ k fun j hj => hT j (.inr (.inr (.inr (.inl hj)))), own_keeps h.op k fun j hj => hT j (.inr (.inr (.inr (.inr hj)))), h.ns, h.no, h.so⟩
theorem RDv.later (h : RDv w g nv sv av ov N D A O F) (k : Below w.heap.size w w') : RDv w' g nv sv av ov N D A O F := h.keeps (Keeps.of (fun _ => False) k) fun _ _ h => h
theorem RDv.lt (h : RDv w g nv sv av ov N D A O F) : ∀ j, Bq g nv sv av ov j → j < w.heap.size := by
  rintro j (rfl | hj | hj | hj | hj)
  · exact h.blk.lt
  · exact (h.now.lt j hj).2
  · exact (h.sure.lt j hj).2
  · exact (h.at_.lt j hj).2
  · exact (h.op.lt j hj).2
/-- The record's own cells written. -/
theorem RDv.put (h : RDv w g nv sv av ov N D A O F) (k : Nat) (v : Value) {nv' sv' av' ov' : Value} {A' : List Nat} {O' : List Sec} {F' : Option Nat} (hl : [nv, sv, av, ov, .int .i64 (fcell F)].set k v = [nv', sv', av', ov', .int .i64 (fcell F')])
    (h1 : w.ownsRow 0 TStr 1 nv' N.length (strs N)) (h2 : w.ownsRow 0 TStr 1 sv' D.length (strs D)) (h3 : w.ownsRow 0 TInt 1 av' A'.length (nats A')) (h4 : w.ownsRow 0 TStr 1 ov' O'.length (strs O')) (s1 : Sep nv' sv') (s2 : Sep nv' ov') (s3 : Sep sv' ov') : RDv (w.setCell ⟨g, k, none⟩ v) g nv' sv' av' ov' N D A' O' F' := by
  have K : Keeps (fun j => j = g) w (w.setCell ⟨g, k, none⟩ v) := (Keeps.refl _ w).setCell g k v (.inl rfl)
  exact ⟨by have := h.blk.setCell k v; rwa [hl] at this, own_keeps h1 K fun j hj e => own_type h1 h.blk (by decide) (by rw [hj, e]), own_keeps h2 K fun j hj e => own_type h2 h.blk (by decide) (by rw [hj, e]), own_keeps h3 K fun j hj e => own_type h3 h.blk (by decide) (by rw [hj, e]), own_keeps h4 K fun j hj e => own_type h4 h.blk (by decide) (by rw [hj, e]), s1, s2, s3⟩
theorem strs_set (L : List Sec) (i : Nat) (s : Sec) : (strs L).set i (.string (bs s)) = strs (L.set i s) := by unfold strs; rw [List.map_set]
/-- A cell of what is seen written. -/
theorem RDv.setN {b c n : Nat} (h : RDv w g (.slice (some ⟨b, 0, none⟩) n c) sv av ov N D A O F) (hn : n = N.length) (i : Nat) (s : Sec) : RDv (w.setCell ⟨b, i, none⟩ (.string (bs s))) g (.slice (some ⟨b, 0, none⟩) n c) sv av ov (N.set i s) D A O F := by
  subst hn
  obtain ⟨h1, h2⟩ := h.now.stored i (.string (bs s))
  rw [strs_set] at h1
  have e : (N.set i s).length = N.length := by simp
  exact ⟨h.blk.of (h2.block g h.blk.lt fun e => h.gn e.symm), by rw [e]; exact h1, h.sure.kept h2 h.ns.symm.ne, h.at_.kept h2 h.an.ne, h.op.kept h2 h.no.symm.ne, h.ns, h.no, h.so⟩
theorem RDv.setS {b c n : Nat} (h : RDv w g nv (.slice (some ⟨b, 0, none⟩) n c) av ov N D A O F) (hn : n = D.length) (i : Nat) (s : Sec) : RDv (w.setCell ⟨b, i, none⟩ (.string (bs s))) g nv (.slice (some ⟨b, 0, none⟩) n c) av ov N (D.set i s) A O F := by
  subst hn
  obtain ⟨h1, h2⟩ := h.sure.stored i (.string (bs s))
  rw [strs_set] at h1
  have e : (D.set i s).length = D.length := by simp
  exact ⟨h.blk.of (h2.block g h.blk.lt fun e => h.gs e.symm), h.now.kept h2 h.ns.ne, by rw [e]; exact h1, h.at_.kept h2 h.as.ne, h.op.kept h2 h.so.symm.ne, h.ns, h.no, h.so⟩
/-- Behind an append to the places. -/
theorem RDv.appA (h : RDv w g nv sv av ov N D A O F) (o : Obj) (n : Nat) {av' : Value} (hown : w'.ownsRow 0 TInt 1 av' (A.length + 1) (nats A ++ [.int .i64 (n : Int)])) (hgrow : (w.alloc o).grownBy w' av.ownBlock) : RDv (w'.setCell ⟨g, 2, none⟩ av') g nv sv av' ov N D (A ++ [n]) O F ∧ Keeps (fun j => j = g ∨ av.ownBlock = some j) w (w'.setCell ⟨g, 2, none⟩ av') := by
  have hl : (A ++ [n]).length = A.length + 1 := by simp
  have e : nats (A ++ [n]) = nats A ++ [.int .i64 (n : Int)] := by simp [nats]
  have b : Rw w' g TRD [nv, sv, av, ov, .int .i64 (fcell F)] := (h.blk.later ((Below.refl _ w).alloc (Nat.le_refl _) o)).of (hgrow.block g (by have := h.blk.lt; simp; omega) fun e => h.ga e.symm)
  have n' : w'.ownsRow 0 TStr 1 nv N.length (strs N) := (h.now.alloc o).kept hgrow h.an.symm.ne
  have s' : w'.ownsRow 0 TStr 1 sv D.length (strs D) := (h.sure.alloc o).kept hgrow h.as.symm.ne
  have o' : w'.ownsRow 0 TStr 1 ov O.length (strs O) := (h.op.alloc o).kept hgrow h.ao.symm.ne
  have a' : w'.ownsRow 0 TInt 1 av' (A ++ [n]).length (nats (A ++ [n])) := by rw [hl, e]; exact hown
  have K : Keeps (fun j => j = g) w' (w'.setCell ⟨g, 2, none⟩ av') := (Keeps.refl _ w').setCell g 2 av' (.inl rfl)
  refine ⟨⟨b.setCell 2 av', own_keeps n' K fun j hj e => own_type n' b (by decide) (by rw [hj, e]), own_keeps s' K fun j hj e => own_type s' b (by decide) (by rw [hj, e]), own_keeps a' K fun j hj e => own_type a' b (by decide) (by rw [hj, e]), own_keeps o' K fun j hj e => own_type o' b (by decide) (by rw [hj, e]), h.ns, h.no, h.so⟩, ?_⟩
  exact (((Keeps.refl _ w).alloc o).grown hgrow fun k hk => .inl (.inr hk)).setCell g 2 av' (.inl (.inl rfl))
/-- Behind an append to the texts. -/
theorem RDv.appO (h : RDv w g nv sv av ov N D A O F) (o : Obj) (s : Sec) {ov' : Value} (hown : w'.ownsRow 0 TStr 1 ov' (O.length + 1) (strs O ++ [.string (bs s)])) (hgrow : (w.alloc o).grownBy w' ov.ownBlock) (hat : ov'.ownBlock = ov.ownBlock ∨ ov'.ownBlock = some (w.alloc o).heap.size) : RDv (w'.setCell ⟨g, 3, none⟩ ov') g nv sv av ov' N D A (O ++ [s]) F ∧ Keeps (fun j => j = g ∨ ov.ownBlock = some j) w (w'.setCell ⟨g, 3, none⟩ ov') := by
  have hl : (O ++ [s]).length = O.length + 1 := by simp
  have e : strs (O ++ [s]) = strs O ++ [.string (bs s)] := by simp [strs]
  have b : Rw w' g TRD [nv, sv, av, ov, .int .i64 (fcell F)] := (h.blk.later ((Below.refl _ w).alloc (Nat.le_refl _) o)).of (hgrow.block g (by have := h.blk.lt; simp; omega) fun e => h.go e.symm)
  have n' : w'.ownsRow 0 TStr 1 nv N.length (strs N) := (h.now.alloc o).kept hgrow h.no.ne
  have s' : w'.ownsRow 0 TStr 1 sv D.length (strs D) := (h.sure.alloc o).kept hgrow h.so.ne
  have a' : w'.ownsRow 0 TInt 1 av A.length (nats A) := (h.at_.alloc o).kept hgrow h.ao.ne
  have o' : w'.ownsRow 0 TStr 1 ov' (O ++ [s]).length (strs (O ++ [s])) := by rw [hl, e]; exact hown
  have K : Keeps (fun j => j = g) w' (w'.setCell ⟨g, 3, none⟩ ov') := (Keeps.refl _ w').setCell g 3 ov' (.inl rfl)
  refine ⟨⟨b.setCell 3 ov', own_keeps n' K fun j hj e => own_type n' b (by decide) (by rw [hj, e]), own_keeps s' K fun j hj e => own_type s' b (by decide) (by rw [hj, e]), own_keeps a' K fun j hj e => own_type a' b (by decide) (by rw [hj, e]), own_keeps o' K fun j hj e => own_type o' b (by decide) (by rw [hj, e]), h.ns, fun j h1 h2 => ?_, fun j h1 h2 => ?_⟩, ?_⟩
  · rcases hat with h3 | h3
    · exact h.no j h1 (h3 ▸ h2)
    · have := (h.now.lt j h1).2; rw [h3] at h2; simp at h2; omega
  · rcases hat with h3 | h3
    · exact h.so j h1 (h3 ▸ h2)
    · have := (h.sure.lt j h1).2; rw [h3] at h2; simp at h2; omega
  · exact (((Keeps.refl _ w).alloc o).grown hgrow fun k hk => .inl (.inr hk)).setCell g 3 ov' (.inl (.inl rfl))
end
/-- The reference's drive: its blocks are some. -/
def Rs (S : Nat → Prop) (w : World) (g : Nat) (x : Dr) : Prop := ∃ nv sv av ov, RDv w g nv sv av ov x.V x.D (x.P.map Prod.fst) (x.P.map Prod.snd) x.F ∧ ∀ j, Bq g nv sv av ov j → S j
def AfterR (S : Nat → Prop) (w : World) (g : Nat) (y : Dr) (w' : World) : Prop := Rs (fun j => S j ∨ w.heap.size ≤ j) w' g y ∧ Keeps S w w'
section
variable {S T : Nat → Prop} {w w' : World} {g : Nat} {x y : Dr}
theorem Rs.keep (h : Rs S w g x) (k : Keeps T w w') (hd : ∀ j, S j → ¬ T j) : Rs S w' g x := by
  obtain ⟨nv, sv, av, ov, h1, h2⟩ := h
  exact ⟨nv, sv, av, ov, h1.keeps k fun j hj => hd j (h2 j hj), h2⟩
theorem Rs.later (h : Rs S w g x) (k : Below w.heap.size w w') : Rs S w' g x := h.keep (Keeps.of (fun _ => False) k) fun _ _ h => h
theorem Rs.mono (h : Rs S w g x) (hS : ∀ j, S j → T j) : Rs T w g x := by
  obtain ⟨nv, sv, av, ov, h1, h2⟩ := h
  exact ⟨nv, sv, av, ov, h1, fun j hj => hS j (h2 j hj)⟩
theorem Rs.lt (h : Rs S w g x) : Rs (fun j => S j ∧ j < w.heap.size) w g x := by
  obtain ⟨nv, sv, av, ov, h1, h2⟩ := h
  exact ⟨nv, sv, av, ov, h1, fun j hj => ⟨h2 j hj, h1.lt j hj⟩⟩
end
end Go.Proofs.Ythoafaaemikiaaa.Dv
