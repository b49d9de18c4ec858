/- Package row: load. -/
import Derived.Test.YtjlncjabiofklaaDoorRkTook
import Derived.Deep.LoopGhost
namespace Go.Proofs.YtjlncjabiofklaaDoor.Rk
open Go Go.RowKit Dv Rf Shf
open Tal (Strs bas)
theorem und_strs : Tryd.prog.underlying 35 = some (.slice (Tryd.prog.elem 35)) := by kernel_rfl
theorem sz_str (w : World) : (Go.sizeOf (Tryd.prog.elem 35)).run Tryd.prog w = .ok 1 w := by kernel_rfl
/-- A slice from some element on. -/
theorem slice_from (a : Option Addr) (n cap e : Nat) (he : e ≤ n) (hc : n ≤ cap) :
    ∃ a', (∀ u, (Instr.sliceAt 35 (.slice a n cap) (some (.int .i64 (e : Int))) none none).run Tryd.prog u = .ok (.slice a' (n - e) (cap - e)) u) ∧ ∀ (L : List ByteArray) (w : World), L.length = n → Strs w a L → Strs w a' (L.drop e) := by
  refine ⟨if cap = e then a else a.map (·.add (e * 1)), fun u => ?_, fun L w hl h j hj => ?_⟩
  · rw [run_sliceAt_slice _ _ _ _ _ _ und_strs, run_slice_l _ _ _ _ _ und_strs .i64 (e : Int) (by omega) (by omega)]
    rw [sz_str]
    simp [Result.andThen, sliced]
  · have hj' : e + j < L.length := by simp at hj; omega
    obtain ⟨b, off, rfl, hb, hc'⟩ := h (e + j) hj'
    rw [if_neg (by omega)]
    exact ⟨b, off + e, by simp [Addr.add], hb, by rw [show off + e + j = off + (e + j) by omega, List.getElem_drop]; exact hc'⟩
theorem strs_keeps {T : Nat → Prop} {w w' : World} {a : Option Addr} {L : List ByteArray} (h : Strs w a L) (k : Keeps T w w') (hT : ∀ b off, a = some ⟨b, off, none⟩ → ¬ T b) : Strs w' a L := fun j hj => by
  obtain ⟨b, off, rfl, hb, hc⟩ := h j hj
  exact ⟨b, off, rfl, Nat.lt_of_lt_of_le hb k.size, by rw [World.cell?_of_block (k.block b hb (hT b off rfl))]; exact hc⟩
def LdRes (L : List Sec) (r g : Nat) (R : Rm) (w : World) (e : Ending) (w' : World) : Prop := e = .returned (.tuple #[]) ∧ ∃ s, Loaded L s ∧ Left r g (.slice none 0 0) ⟨R.f, R.n, s, R.top, R.down⟩ w w'
/-- What has been read so far. -/
structure Ldg (L : List Sec) (r g : Nat) (R : Rm) (w : World) (tv : Value) (s : Ld) (wr : World) : Prop where
  at' : At wr r g tv ⟨R.f, R.n, s, R.top, R.down⟩
  k : Keeps (fun j => j = r) w wr
  o : ∀ j, tv.ownBlock = some j → w.heap.size ≤ j
theorem Ldg.next {L : List Sec} {r g : Nat} {R : Rm} {w wr w' : World} {tv : Value} {s s' : Ld} (h : Ldg L r g R w tv s wr) (k : Left r g tv ⟨R.f, R.n, s', R.top, R.down⟩ wr w') : ∃ tv', Ldg L r g R w tv' s' w' := by
  obtain ⟨tv', h1, h2, h3⟩ := k
  refine ⟨tv', h1, h.k.then h2 ?_, ?_⟩
  · rintro j (rfl | hj)
    · exact .inl rfl
    · exact .inr (h.o j hj)
  · intro j hj
    have hs := h.k.size
    rcases h3 j (.inr hj) with (rfl | hj) | hj
    · exact absurd hj (own_type h1.t h1.blk (by decide))
    · exact h.o j hj
    · omega
set_option maxRecDepth 100000 in
set_option maxHeartbeats 1600000 in
theorem load_c (r g : Nat) (R : Rm) (w : World) (a : Option Addr) (cap : Nat) (L : List ByteArray) (h : At w r g (.slice none 0 0) R) (hS : R.S = Ld.zero) (hL : Strs w a L) (hl : L.length ≤ 1000) (hcap : L.length ≤ cap)
    (hne : ∀ b off, a = some ⟨b, off, none⟩ → b ≠ r) : Calls Tryd.prog 33 #[.pointer (some ⟨r, 0, none⟩), .slice a L.length cap] w (LdRes (lists L) r g R w) := by
  have H0 : Hid (Ldg (lists L) r g R w (.slice none 0 0) Ld.zero w) := ⟨by rw [← hS]; exact h, Keeps.refl _ _, fun j hj => by simp [Value.ownBlock] at hj⟩
  have HL := Lib.hid hL
  have HN := Lib.hid hne
  have hll := lists_len L
  have HLL := Lib.hid hll
  obtain ⟨G, hG⟩ : ∃ G, lists L = G := ⟨_, rfl⟩
  have HG := Lib.hid hG
  rw [hG] at H0 HLL ⊢
  clear h hS hL hne hll hG
  go_enter Tryd.func33, Tryd.ntmps33
  go_wp2_with fail
  go_step3
  go_wp2_with fail
  go_step3
  go_wp2_with fail
  go_loopg [4] L.length (fun kx s4 wr => ∃ (s : Ld) (tv : Value), Hid (Reads G s) ∧ Hid (Ldg G r g R w tv s wr) ∧ L.length ≤ s.e + kx)
  case atStart => exact ⟨Ld.zero, _, Reads.nil, H0, by omega⟩
  case round =>
    obtain ⟨s, tv, HR, H1, hkx⟩ := hrel
    clear H0
    have hf := HR.out.fine
    have he : s.e ≤ L.length := by rw [← HLL.out]; exact hf.le
    have ht : s.T.length ≤ 1000 := by have := hf.tl; omega
    obtain ⟨a', hsl, hst⟩ := slice_from a L.length cap s.e he hcap
    have hsl := Lib.hid hsl
    have hz : (L.drop s.e).length = L.length - s.e := by simp
    have KG : Hid (∀ u, Keeps (fun j => j = r) w u → Calls Tryd.prog 46 #[.slice a' (L.length - s.e) (cap - s.e)] u (SGet (Sf.pget (G.drop s.e)) u)) := fun u hu => by
      have h1 := strs_keeps HL.out hu fun b off e => HN.out b off e
      have := sheafget u a' (cap - s.e) (L.drop s.e) (hst L u rfl h1) (by omega) (by omega)
      rw [hz] at this
      have e : lists (L.drop s.e) = G.drop s.e := by rw [← HG.out]; unfold lists; rw [List.map_drop]
      rwa [e] at this
    have KG2 := Lib.hid (KG.out _ H1.out.k)
    have c7 := H1.out.at'.c7
    have c5 := H1.out.at'.c5
    have q0 : (s.e : Int) ≤ (L.length : Int) := by omega
    have q1 : (0 : Int) ≤ (s.e : Int) := by omega
    clear hf hst KG hz
    have hsl2 := hsl.out wr
    cases hp : Sf.pget (G.drop s.e) with
    | none =>
      have HS : Hid (step G s = none) := by unfold step; show _ = none; rw [hp]
      have HP := Lib.hid hp
      clear hp
      go_wp2_with fail
      refine KG2.out.mono ?_
      rintro e w2 ⟨_, hn, hb⟩
      obtain rfl := hn HP.out
      have HB := Lib.hid hb
      clear hb hn
      go_wp2_with fail
      rw [Exit.noGoto_normal]
      go_end0
      exact ⟨rfl, s, ⟨HR.out, HS.out⟩, tv, H1.out.at'.later HB.out, (H1.out.k.mono (S := Bs r (.slice none 0 0)) fun j hj => .inl (.inl hj)).trans (Keeps.of _ HB.out), fun j hj => by
        rcases hj with rfl | hj
        · exact .inl (.inl rfl)
        · exact .inr (H1.out.o j hj)⟩
    | some z =>
      obtain ⟨n, t, k⟩ := z
      have hi := Sf.is_of_pget hp
      have hi9 := hi.le
      rw [List.length_drop, HLL.out] at hi9
      have hk1 := is_pos hi
      have hn9 := hi.nl
      have HP := Lib.hid hp
      by_cases hlt : s.last < n
      · have HS := Lib.hid (step_of hi hlt)
        have q2 : (s.last : Int) < (n : Int) := by omega
        have KT : Hid (∀ u, Ldg G r g R w tv s u → Calls Tryd.prog 47 #[.pointer (some ⟨r, 0, none⟩), .int .u64 (n : Int), .string ⟨t.toArray⟩, .int .i64 (k : Int)] u fun e w' => e = .returned (.tuple #[]) ∧ ∃ tv', Ldg G r g R w tv' (s.took n t k) w') := fun u hu =>
          (took_c r g tv ⟨R.f, R.n, s, R.top, R.down⟩ n k ⟨t.toArray⟩ u hu.at' (by show s.T.length ≤ 100000; omega) (by show s.e + k ≤ 1000000; omega)).mono fun e w' h => ⟨h.1, hu.next h.2⟩
        clear hp hi hlt hn9
        go_wp2_with fail
        refine KG2.out.mono ?_
        rintro e w2 ⟨hs, _, hb⟩
        obtain rfl := hs n t k HP.out
        have H2 : Hid (Ldg G r g R w tv s w2) := ⟨H1.out.at'.later hb, H1.out.k.trans (Keeps.of _ hb), H1.out.o⟩
        clear hb hs c5 c7
        have c5 := H2.out.at'.c5
        go_wp2_with fail
        refine (KT.out _ H2.out).mono ?_
        rintro e w3 ⟨rfl, tv', h3⟩
        have H3 := Lib.hid h3
        clear h3
        go_wp2_with fail
        go_roundg (L.length - (s.e + k))
        case measure => omega
        case rel => exact ⟨s.took n t k, tv', HR.out.more HS.out, H3, by show L.length ≤ s.e + k + _; omega⟩
      · have HS : Hid (step G s = none) := step_none fun m u k' h => by
          have h1 := Sf.pget_of_is h
          rw [hp] at h1
          cases h1
          omega
        have q2 : (n : Int) ≤ (s.last : Int) := by omega
        clear hp hi hlt hn9
        go_wp2_with fail
        refine KG2.out.mono ?_
        rintro e w2 ⟨hs, _, hb⟩
        obtain rfl := hs n t k HP.out
        have H2 : Hid (Ldg G r g R w tv s w2) := ⟨H1.out.at'.later hb, H1.out.k.trans (Keeps.of _ hb), H1.out.o⟩
        have HB := Lib.hid hb
        clear hb hs c5 c7
        have c5 := H2.out.at'.c5
        go_wp2_with fail
        rw [Exit.noGoto_normal]
        go_end0
        exact ⟨rfl, s, ⟨HR.out, HS.out⟩, tv, H1.out.at'.later HB.out, (H1.out.k.mono (S := Bs r (.slice none 0 0)) fun j hj => .inl (.inl hj)).trans (Keeps.of _ HB.out), fun j hj => by
          rcases hj with rfl | hj
          · exact .inl (.inl rfl)
          · exact .inr (H1.out.o j hj)⟩
end Go.Proofs.YtjlncjabiofklaaDoor.Rk
