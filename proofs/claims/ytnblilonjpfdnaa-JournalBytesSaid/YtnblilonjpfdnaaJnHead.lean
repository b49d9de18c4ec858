/- Package journal: the laws' head. -/
import Derived.Test.YtnblilonjpfdnaaJnStd
import Derived.Test.YtnblilonjpfdnaaJnSame
import Derived.Test.YtnblilonjpfdnaaJnPut
namespace Go.Proofs.Ytnblilonjpfdnaa.Jn
open Go Go.RowKit Ck
def LA : List Ln := [⟨1100, 0, 0, 5⟩, ⟨1200, 0, 0, -5⟩]
def LB : List Ln := [⟨1100, 0, 0, 5⟩, ⟨1200, 0, 0, -4⟩]
def LC : List Ln := [⟨1200, 0, 0, 2⟩, ⟨1100, 0, 0, 3⟩, ⟨1200, 0, 0, -2⟩]
def LD : List Ln := [⟨1100, 0, 0, 3⟩]
theorem lns_rw {w : World} {b : Nat} {L : List Ln} (h : Rw w b TLine (flatL L)) : Lns w (some ⟨b, 0, none⟩) L := fun j hj => ⟨b, 0, rfl, h.lt, fun k u hu => by
  have hk : k < 4 := (List.getElem?_eq_some_iff.1 hu).1
  rw [Nat.zero_add, h.cell, flatL_get hj k hk]
  exact hu⟩
theorem chk_a : chkM 1 1 LA = 0 := by decide
theorem chk_b : chkM 1 1 LB = 200 := by decide
theorem tot_a : totM 1 1 LA = (5, 0) := by decide
theorem tok_c : tokB LC = true := by decide
theorem tid_c {T : List Ln} (h : Tidied LC T) : T = LD := by
  have h2 : Tidied LC (tidyK LC [(1100, 0, 0), (1200, 0, 0)]) := tidied_of (by decide) (by decide)
  exact h.uniq (show Tidied LC LD from h2)
theorem num_one {n : Nat} (h : n < 128) : Ta.num n = [UInt8.ofNat n] := by
  unfold Ta.num
  rw [show n / 128 = 0 by omega, Ta.up_zero, show n % 128 = n by omega]; rfl
theorem num_two {n : Nat} (h : 128 ≤ n) (h2 : n < 16512) : Ta.num n = [UInt8.ofNat (128 + (n / 128 - 1) % 128), UInt8.ofNat (n % 128)] := by
  unfold Ta.num
  rw [Ta.up_pos (show 0 < n / 128 by omega), show (n / 128 - 1) / 128 = 0 by omega, Ta.up_zero]; rfl
theorem bytes_a : bs (enB 1 1 0 LA) = ⟨#[1, 1, 0, 2, 135, 76, 0, 0, 10, 136, 48, 0, 0, 9]⟩ := by
  have e : enB 1 1 0 LA = Ta.num 1 ++ Ta.num 1 ++ Ta.num 0 ++ Ta.num 2 ++ ((Ta.num 1100 ++ Ta.num 0 ++ Ta.num 0 ++ Ta.num 10) ++ ((Ta.num 1200 ++ Ta.num 0 ++ Ta.num 0 ++ Ta.num 9) ++ [])) := rfl
  rw [e, num_two (n := 1100) (by omega) (by omega), num_two (n := 1200) (by omega) (by omega), num_one (n := 0) (by omega), num_one (n := 1) (by omega), num_one (n := 2) (by omega), num_one (n := 9) (by omega), num_one (n := 10) (by omega)]
  rfl
theorem enr_a : EnR 1 0 LA := ⟨by omega, by omega, fun x hx => by
  simp only [LA, List.mem_cons, List.not_mem_nil, or_false] at hx
  rcases hx with rfl | rfl <;> (unfold InR Ln.key; simp)⟩
theorem inr_c : ∀ x ∈ LC, InR x.key := fun x hx => by
  simp only [LC, List.mem_cons, List.not_mem_nil, or_false] at hx
  rcases hx with rfl | rfl | rfl <;> (unfold InR Ln.key; simp)
theorem on_a : onM (stdM []) 1 1 LA = 0 := by
  unfold onM
  rw [chk_a, if_neg (by simp)]
  exact onL_zero fun j hj => by
    match j, hj with
    | 0, _ => exact line_std _ 0 (by omega) rfl
    | 1, _ => exact line_std _ 1 (by omega) rfl
section
set_option maxRecDepth 100000
set_option maxHeartbeats 3200000
theorem head_c (w : World) : Calls Try.prog 9 #[] w fun e w' => e = .returned (.bool true) ∧ Below w.heap.size w w' := by
  obtain ⟨lo, hlo⟩ : ∃ lo, lo = w.heap.size := ⟨_, rfl⟩
  have HLO := Lib.hid hlo
  have hlb : Below lo w w := Below.refl _ _
  have HR0 : Hid (Rw (w.alloc (.cells #[.int .i64 1100, .int .u64 0, .int .u64 0, .int .i64 5, .int .i64 1200, .int .u64 0, .int .u64 0, .int .i64 (-5)] TLine)) w.heap.size TLine (flatL LA)) := Rw.new w [.int .i64 1100, .int .u64 0, .int .u64 0, .int .i64 5, .int .i64 1200, .int .u64 0, .int .u64 0, .int .i64 (-5)] TLine
  have HB0 : Hid (Below lo w (w.alloc (.cells #[.int .i64 1100, .int .u64 0, .int .u64 0, .int .i64 5, .int .i64 1200, .int .u64 0, .int .u64 0, .int .i64 (-5)] TLine))) := hlb.alloc (by rw [hlo]; exact Nat.le_refl _) _
  clear hlb
  go_enter Try.func9, Try.ntmps9
  go_upto_region 2 with (fail)
  rw [← hlo] at HR0 ⊢
  clear hlo
  have hsz : (w.alloc (.cells #[.int .i64 1100, .int .u64 0, .int .u64 0, .int .i64 5, .int .i64 1200, .int .u64 0, .int .u64 0, .int .i64 (-5)] TLine)).heap.size = lo + 1 := by simp [HLO.out]
  have HE0 : Hid (Rw ((w.alloc (.cells #[.int .i64 1100, .int .u64 0, .int .u64 0, .int .i64 5, .int .i64 1200, .int .u64 0, .int .u64 0, .int .i64 (-5)] TLine)).alloc (.cells #[.int .i64 1, .int .u8 1, .int .u64 0, .slice (some ⟨lo, 0, none⟩) 2 2] TEn)) (lo + 1) TEn [.int .i64 1, .int .u8 1, .int .u64 0, .slice (some ⟨lo, 0, none⟩) 2 2]) := by
    have := Rw.new (w.alloc (.cells #[.int .i64 1100, .int .u64 0, .int .u64 0, .int .i64 5, .int .i64 1200, .int .u64 0, .int .u64 0, .int .i64 (-5)] TLine)) [.int .i64 1, .int .u8 1, .int .u64 0, .slice (some ⟨lo, 0, none⟩) 2 2] TEn
    rwa [hsz] at this
  have HB1 : Hid (Below lo w ((w.alloc (.cells #[.int .i64 1100, .int .u64 0, .int .u64 0, .int .i64 5, .int .i64 1200, .int .u64 0, .int .u64 0, .int .i64 (-5)] TLine)).alloc (.cells #[.int .i64 1, .int .u8 1, .int .u64 0, .slice (some ⟨lo, 0, none⟩) 2 2] TEn))) := HB0.out.alloc (by rw [hsz]; omega) _
  have HR1 : Hid (Rw ((w.alloc (.cells #[.int .i64 1100, .int .u64 0, .int .u64 0, .int .i64 5, .int .i64 1200, .int .u64 0, .int .u64 0, .int .i64 (-5)] TLine)).alloc (.cells #[.int .i64 1, .int .u8 1, .int .u64 0, .slice (some ⟨lo, 0, none⟩) 2 2] TEn)) lo TLine (flatL LA)) := HR0.out.later ((Below.refl _ _).alloc (Nat.le_refl _) _)
  obtain ⟨be, hbe⟩ : ∃ be, be = lo + 1 := ⟨_, rfl⟩
  rw [← hbe] at HE0 ⊢
  clear hbe hsz HR0 HB0
  generalize (w.alloc (.cells #[.int .i64 1100, .int .u64 0, .int .u64 0, .int .i64 5, .int .i64 1200, .int .u64 0, .int .u64 0, .int .i64 (-5)] TLine)).alloc (.cells #[.int .i64 1, .int .u8 1, .int .u64 0, .slice (some ⟨lo, 0, none⟩) 2 2] TEn) = W1 at HE0 HB1 HR1 ⊢
  have e0 : W1.cell? ⟨be, 0, none⟩ = some (.int .i64 1) := HE0.out.cell 0
  have e1 : W1.cell? ⟨be, 1, none⟩ = some (.int .u8 1) := HE0.out.cell 1
  have e2 : W1.cell? ⟨be, 2, none⟩ = some (.int .u64 0) := HE0.out.cell 2
  have e3 : W1.cell? ⟨be, 3, none⟩ = some (.slice (some ⟨lo, 0, none⟩) 2 2) := HE0.out.cell 3
  have KT : Hid (Calls Try.prog 12 #[.agg #[.int .i64 1, .int .u8 1, .int .u64 0, .slice (some ⟨lo, 0, none⟩) 2 2]] W1 fun e w' => e = .returned (.tuple #[.int .i64 5, .int .i64 5, .int .i64 0]) ∧ Below W1.heap.size W1 w') := by
    have := totals_c 1 1 0 LA (some ⟨lo, 0, none⟩) 2 W1 (lns_rw HR1.out) (by decide)
    rw [tot_a] at this
    exact this
  go_wp2_with fail
  refine KT.out.mono ?_
  rintro _ W2 ⟨rfl, hb2⟩
  have HB2 : Hid (Below lo w W2) := HB1.out.trans (hb2.mono (by rw [HLO.out]; exact HB1.out.size))
  have HE2 := Lib.hid (HE0.out.later hb2)
  have HR2 := Lib.hid (HR1.out.later hb2)
  clear e0 e1 e2 e3 KT hb2 HB1 HE0 HR1
  have e0 : W2.cell? ⟨be, 0, none⟩ = some (.int .i64 1) := HE2.out.cell 0
  have e1 : W2.cell? ⟨be, 1, none⟩ = some (.int .u8 1) := HE2.out.cell 1
  have e2 : W2.cell? ⟨be, 2, none⟩ = some (.int .u64 0) := HE2.out.cell 2
  have e3 : W2.cell? ⟨be, 3, none⟩ = some (.slice (some ⟨lo, 0, none⟩) 2 2) := HE2.out.cell 3
  have KP : Hid (Calls Try.prog 25 #[.agg #[.int .i64 1, .int .u8 1, .int .u64 0, .slice (some ⟨lo, 0, none⟩) 2 2]] W2 fun e w' => e = .returned (.tuple #[.string ⟨#[1, 1, 0, 2, 135, 76, 0, 0, 10, 136, 48, 0, 0, 9]⟩, .int .i64 0]) ∧ Below W2.heap.size W2 w') := by
    refine (put_c 1 1 0 LA (some ⟨lo, 0, none⟩) 2 W2 (lns_rw HR2.out) (by decide) enr_a).mono ?_
    rintro e w' ⟨hb, ⟨h1, _⟩ | ⟨_, h2⟩⟩
    · exact absurd chk_a h1
    · rw [bytes_a] at h2
      exact ⟨h2, hb⟩
  go_wp2_with fail
  refine KP.out.mono ?_
  rintro _ W3 ⟨rfl, hb3⟩
  have HB3 : Hid (Below lo w W3) := HB2.out.trans (hb3.mono (by rw [HLO.out]; exact HB2.out.size))
  have HE3 := Lib.hid (HE2.out.later hb3)
  have HR3 := Lib.hid (HR2.out.later hb3)
  clear e0 e1 e2 e3 KP hb3 HB2 HE2 HR2
  go_upto_region 5 with (fail)
  have HRB : Hid (Rw (W3.alloc (.cells #[.int .i64 1100, .int .u64 0, .int .u64 0, .int .i64 5, .int .i64 1200, .int .u64 0, .int .u64 0, .int .i64 (-4)] TLine)) W3.heap.size TLine (flatL LB)) := Rw.new W3 [.int .i64 1100, .int .u64 0, .int .u64 0, .int .i64 5, .int .i64 1200, .int .u64 0, .int .u64 0, .int .i64 (-4)] TLine
  have hb4 : Below W3.heap.size W3 (W3.alloc (.cells #[.int .i64 1100, .int .u64 0, .int .u64 0, .int .i64 5, .int .i64 1200, .int .u64 0, .int .u64 0, .int .i64 (-4)] TLine)) := (Below.refl _ _).alloc (Nat.le_refl _) _
  have hsz : (W3.alloc (.cells #[.int .i64 1100, .int .u64 0, .int .u64 0, .int .i64 5, .int .i64 1200, .int .u64 0, .int .u64 0, .int .i64 (-4)] TLine)).heap.size = W3.heap.size + 1 := by simp
  have HEB : Hid (Rw ((W3.alloc (.cells #[.int .i64 1100, .int .u64 0, .int .u64 0, .int .i64 5, .int .i64 1200, .int .u64 0, .int .u64 0, .int .i64 (-4)] TLine)).alloc (.cells #[.int .i64 1, .int .u8 1, .int .u64 0, .slice (some ⟨W3.heap.size, 0, none⟩) 2 2] TEn)) (W3.heap.size + 1) TEn [.int .i64 1, .int .u8 1, .int .u64 0, .slice (some ⟨W3.heap.size, 0, none⟩) 2 2]) := by
    have := Rw.new (W3.alloc (.cells #[.int .i64 1100, .int .u64 0, .int .u64 0, .int .i64 5, .int .i64 1200, .int .u64 0, .int .u64 0, .int .i64 (-4)] TLine)) [.int .i64 1, .int .u8 1, .int .u64 0, .slice (some ⟨W3.heap.size, 0, none⟩) 2 2] TEn
    rwa [hsz] at this
  have hb5 : Below W3.heap.size W3 ((W3.alloc (.cells #[.int .i64 1100, .int .u64 0, .int .u64 0, .int .i64 5, .int .i64 1200, .int .u64 0, .int .u64 0, .int .i64 (-4)] TLine)).alloc (.cells #[.int .i64 1, .int .u8 1, .int .u64 0, .slice (some ⟨W3.heap.size, 0, none⟩) 2 2] TEn)) := hb4.alloc (by rw [hsz]; omega) _
  have HB5 : Hid (Below lo w ((W3.alloc (.cells #[.int .i64 1100, .int .u64 0, .int .u64 0, .int .i64 5, .int .i64 1200, .int .u64 0, .int .u64 0, .int .i64 (-4)] TLine)).alloc (.cells #[.int .i64 1, .int .u8 1, .int .u64 0, .slice (some ⟨W3.heap.size, 0, none⟩) 2 2] TEn))) := HB3.out.trans (hb5.mono (by rw [HLO.out]; exact HB3.out.size))
  have HE5 := Lib.hid (HE3.out.later hb5)
  have HR5 := Lib.hid (HR3.out.later hb5)
  have HRB5 := Lib.hid (HRB.out.later ((Below.refl _ _).alloc (Nat.le_refl _) (.cells #[.int .i64 1, .int .u8 1, .int .u64 0, .slice (some ⟨W3.heap.size, 0, none⟩) 2 2] TEn)))
  obtain ⟨b3, hb3⟩ : ∃ b3, b3 = W3.heap.size := ⟨_, rfl⟩
  rw [← hb3] at HEB HB5 HE5 HR5 HRB5 ⊢
  obtain ⟨bb, hbb⟩ : ∃ bb, bb = b3 + 1 := ⟨_, rfl⟩
  rw [← hbb] at HEB ⊢
  clear hb4 hb5 hsz HRB HB3 HE3 HR3 hbb
  generalize (W3.alloc (.cells #[.int .i64 1100, .int .u64 0, .int .u64 0, .int .i64 5, .int .i64 1200, .int .u64 0, .int .u64 0, .int .i64 (-4)] TLine)).alloc (.cells #[.int .i64 1, .int .u8 1, .int .u64 0, .slice (some ⟨b3, 0, none⟩) 2 2] TEn) = W5 at HEB HB5 HE5 HR5 HRB5 ⊢
  clear hb3
  have KTD : Hid (∀ u b, Lns u (some ⟨b, 0, none⟩) LC → Calls Try.prog 22 #[.slice (some ⟨b, 0, none⟩) 3 3] u fun e w' => ∃ v, e = .returned (.tuple #[v, .int .i64 0]) ∧ w'.ownsRow u.heap.size TLine 4 v 1 (flatL LD) ∧ Below u.heap.size u w') := fun u b hL => by
    refine (tidy_c LC (some ⟨b, 0, none⟩) 3 u hL inr_c (by decide)).mono ?_
    rintro e w' ⟨hb, ⟨_, T, v, hT, h2, h3, _⟩ | ⟨h1, _⟩⟩
    · obtain rfl := tid_c hT
      exact ⟨v, h2, h3, hb⟩
    · rw [tok_c] at h1; cases h1
  have KTD1 := Lib.hid (KTD.out (W5.alloc (.cells #[.int .i64 1200, .int .u64 0, .int .u64 0, .int .i64 2, .int .i64 1100, .int .u64 0, .int .u64 0, .int .i64 3, .int .i64 1200, .int .u64 0, .int .u64 0, .int .i64 (-2)] TLine)) W5.heap.size (lns_rw (Rw.new W5 [.int .i64 1200, .int .u64 0, .int .u64 0, .int .i64 2, .int .i64 1100, .int .u64 0, .int .u64 0, .int .i64 3, .int .i64 1200, .int .u64 0, .int .u64 0, .int .i64 (-2)] TLine)))
  have hb6 : Below W5.heap.size W5 (W5.alloc (.cells #[.int .i64 1200, .int .u64 0, .int .u64 0, .int .i64 2, .int .i64 1100, .int .u64 0, .int .u64 0, .int .i64 3, .int .i64 1200, .int .u64 0, .int .u64 0, .int .i64 (-2)] TLine)) := (Below.refl _ _).alloc (Nat.le_refl _) _
  clear KTD
  go_wp2_with fail
  refine KTD1.out.mono ?_
  rintro _ W7 ⟨v, rfl, hown7, hb7⟩
  have hb8 : Below W5.heap.size W5 W7 := hb6.trans (hb7.mono hb6.size)
  have HB7 : Hid (Below lo w W7) := HB5.out.trans (hb8.mono (by rw [HLO.out]; exact HB5.out.size))
  have HE7 := Lib.hid (HE5.out.later hb8)
  have HR7 := Lib.hid (HR5.out.later hb8)
  have HEB7 := Lib.hid (HEB.out.later hb8)
  have HRB7 := Lib.hid (HRB5.out.later hb8)
  obtain ⟨ta, tc, hv, hlns, _⟩ := lns_own (L := LD) hown7
  have HLD := Lib.hid hlns
  rw [show LD.length = 1 from rfl] at hv
  subst hv
  clear hown7 hb7 hb8 hb6 hlns KTD1 HB5 HE5 HR5 HEB HRB5
  go_upto_region 6 with (fail)
  have HS : Hid (∀ u, Below W7.heap.size W7 u → (Below W7.heap.size W7 u ∧ u.cell? ⟨be, 0, none⟩ = some (.int .i64 1) ∧ u.cell? ⟨be, 1, none⟩ = some (.int .u8 1) ∧ u.cell? ⟨be, 2, none⟩ = some (.int .u64 0) ∧ u.cell? ⟨be, 3, none⟩ = some (.slice (some ⟨lo, 0, none⟩) 2 2) ∧ u.cell? ⟨bb, 0, none⟩ = some (.int .i64 1) ∧ u.cell? ⟨bb, 1, none⟩ = some (.int .u8 1) ∧ u.cell? ⟨bb, 2, none⟩ = some (.int .u64 0) ∧ u.cell? ⟨bb, 3, none⟩ = some (.slice (some ⟨b3, 0, none⟩) 2 2))) := fun u hu => ⟨hu, (HE7.out.later hu).cell 0, (HE7.out.later hu).cell 1, (HE7.out.later hu).cell 2, (HE7.out.later hu).cell 3, (HEB7.out.later hu).cell 0, (HEB7.out.later hu).cell 1, (HEB7.out.later hu).cell 2, (HEB7.out.later hu).cell 3⟩
  have KC1 : Hid (∀ u, Below W7.heap.size W7 u → Calls Try.prog 16 #[.agg #[.int .i64 1, .int .u8 1, .int .u64 0, .slice (some ⟨lo, 0, none⟩) 2 2]] u fun e w' => e = .returned (.int .i64 0) ∧ Below u.heap.size u w') := fun u hu => by
    have := check_c 1 1 0 LA (some ⟨lo, 0, none⟩) 2 u (lns_rw (HR7.out.later hu)) (by decide)
    rw [chk_a] at this
    exact this
  have KC2 : Hid (∀ u, Below W7.heap.size W7 u → Calls Try.prog 16 #[.agg #[.int .i64 1, .int .u8 1, .int .u64 0, .slice (some ⟨b3, 0, none⟩) 2 2]] u fun e w' => e = .returned (.int .i64 200) ∧ Below u.heap.size u w') := fun u hu => by
    have := check_c 1 1 0 LB (some ⟨b3, 0, none⟩) 2 u (lns_rw (HRB7.out.later hu)) (by decide)
    rw [chk_b] at this
    exact this
  have KSL : Hid (∀ u b, Below W7.heap.size W7 u → Rw u b TLine (flatL LD) → Calls Try.prog 24 #[.slice ta 1 tc, .slice (some ⟨b, 0, none⟩) 1 1] u fun e w' => e = .returned (.bool true) ∧ Below u.heap.size u w') := fun u b hu hr =>
    sameL_c LD ta (some ⟨b, 0, none⟩) tc 1 u (HLD.out.later hu) (lns_rw hr) (by decide)
  have KST : Hid (∀ u, Calls Try.prog 10 #[.slice none 0 0] u fun e w' => ∃ c K N, e = .returned (.pointer (some ⟨c, 0, none⟩)) ∧ Ch.Ct u.heap.size w' c (stdM []) K N ∧ Below u.heap.size u w') := fun u => by
    refine (standard_c [] none 0 u (fun j hj => absurd hj (by simp)) (by simp) (by simp)).mono ?_
    rintro e w' ⟨c, K, N, h1, h2, _, h4⟩
    exact ⟨c, K, N, h1, h2, h4.b⟩
  have KON : Hid (∀ u base c K N, Below W7.heap.size W7 u → Ch.Ct base u c (stdM []) K N → Calls Try.prog 18 #[.pointer (some ⟨c, 0, none⟩), .agg #[.int .i64 1, .int .u8 1, .int .u64 0, .slice (some ⟨lo, 0, none⟩) 2 2]] u fun e w' => e = .returned (.int .i64 0) ∧ Below u.heap.size u w') := fun u base c K N hu hct => by
    have := on_c hct 1 1 0 LA (some ⟨lo, 0, none⟩) 2 (lns_rw (HR7.out.later hu)) (by decide)
    rw [on_a] at this
    exact this
  have KNL : Hid (∀ u, Calls Try.prog 18 #[.pointer none, .agg #[.int .i64 1, .int .u8 1, .int .u64 0, .slice (some ⟨lo, 0, none⟩) 2 2]] u fun e w' => e = .returned (.int .i64 1) ∧ Below u.heap.size u w') := fun u => on_nil _ u ⟨_, _, _, _, rfl⟩
  clear HE7 HEB7 HR7 HRB7 HLD
  refine wp_region_held_drew (S := (fun u => (Below W7.heap.size W7 u ∧ u.cell? ⟨be, 0, none⟩ = some (.int .i64 1) ∧ u.cell? ⟨be, 1, none⟩ = some (.int .u8 1) ∧ u.cell? ⟨be, 2, none⟩ = some (.int .u64 0) ∧ u.cell? ⟨be, 3, none⟩ = some (.slice (some ⟨lo, 0, none⟩) 2 2) ∧ u.cell? ⟨bb, 0, none⟩ = some (.int .i64 1) ∧ u.cell? ⟨bb, 1, none⟩ = some (.int .u8 1) ∧ u.cell? ⟨bb, 2, none⟩ = some (.int .u64 0) ∧ u.cell? ⟨bb, 3, none⟩ = some (.slice (some ⟨b3, 0, none⟩) 2 2)))) (by kernel_rfl) ?_ (fun hHeld => ?_)
  · exact HS.out _ (Below.refl _ W7).drew
  refine wpAnyH_take (i := 0) (oi := { dst := some 37, op := Op.load 25 (Operand.tmp 1), type := 25, pos := "law.go:35", after := #[], guard := none }) (v := (.agg #[.int .i64 1, .int .u8 1, .int .u64 0, .slice (some ⟨lo, 0, none⟩) 2 2])) rfl (by kernel_rfl) (by kernel_rfl) (by kernel_rfl) (fun _ _ _ h => h) (Or.inl ⟨by rfl, ?_⟩) hHeld ?_
  · rintro u ⟨hb, p0, p1, p2, p3, q0, q1, q2, q3⟩
    go_simp <;> first | rfl | kernel_rfl
  try simp only [Act.put, List.setIfInBounds_toArray, List.set_cons_zero, List.set_cons_succ]
  refine wpAnyH_ready (rs := [1]) (by kernel_rfl) (by simp) ?_
  refine AllReadyH.cons (o := { dst := some 38, op := Op.call { callee := Callee.value (Operand.func 16), args := #[Operand.tmp 37], argTypes := #[25] }, type := 32, pos := "law.go:35", after := #[{ on := 0, ground := Ground.data }], guard := none }) rfl (fun Kq hKq => ?_) AllReadyH.nil
  go_simp
  refine (KC1.out _ hHeld.1).mono ?_
  rintro _ V1 ⟨rfl, hb1⟩
  go_simp
  refine hKq.out _ _ ((HS.out _ (hHeld.1.trans (hb1.mono hHeld.1.size)))) (fun hHeld1 => ?_)
  clear hKq Kq
  try simp only [Act.put, List.setIfInBounds_toArray, List.set_cons_zero, List.set_cons_succ]
  refine wpAnyH_take (i := 2) (oi := { dst := some 39, op := Op.binOp BinOp.eql 32 (Operand.tmp 38) (Operand.const (Value.int IntKind.i64 0)) 32, type := 4, pos := "law.go:35", after := #[{ on := 1, ground := Ground.data }], guard := none }) (v := (.bool true)) rfl (by kernel_rfl) (by kernel_rfl) (by kernel_rfl) (fun _ _ _ h => h) (Or.inl ⟨by rfl, ?_⟩) hHeld1 ?_
  · rintro u ⟨hb, p0, p1, p2, p3, q0, q1, q2, q3⟩
    go_simp <;> first | rfl | kernel_rfl
  try simp only [Act.put, List.setIfInBounds_toArray, List.set_cons_zero, List.set_cons_succ]
  refine wpAnyH_take (i := 3) (oi := { dst := some 40, op := Op.move (Operand.tmp 39), type := 4, pos := "law.go:35", after := #[{ on := 2, ground := Ground.data }, { on := 1, ground := Ground.chain }], guard := none }) (v := (.bool true)) rfl (by kernel_rfl) (by kernel_rfl) (by kernel_rfl) (fun _ _ _ h => h) (Or.inl ⟨by rfl, ?_⟩) hHeld1 ?_
  · rintro u ⟨hb, p0, p1, p2, p3, q0, q1, q2, q3⟩
    go_simp <;> first | rfl | kernel_rfl
  try simp only [Act.put, List.setIfInBounds_toArray, List.set_cons_zero, List.set_cons_succ]
  refine wpAnyH_take (i := 4) (oi := { dst := some 41, op := Op.move (Operand.tmp 2), type := 2, pos := "law.go:35", after := #[{ on := 3, ground := Ground.guard }], guard := some (3, true) }) (v := (.int .i64 5)) rfl (by kernel_rfl) (by kernel_rfl) (by kernel_rfl) (fun _ _ _ h => h) (Or.inl ⟨by rfl, ?_⟩) hHeld1 ?_
  · rintro u ⟨hb, p0, p1, p2, p3, q0, q1, q2, q3⟩
    go_simp <;> first | rfl | kernel_rfl
  try simp only [Act.put, List.setIfInBounds_toArray, List.set_cons_zero, List.set_cons_succ]
  refine wpAnyH_take (i := 5) (oi := { dst := some 42, op := Op.binOp BinOp.eql 2 (Operand.tmp 41) (Operand.const (Value.int IntKind.i64 5)) 2, type := 4, pos := "law.go:35", after := #[{ on := 4, ground := Ground.data }, { on := 3, ground := Ground.guard }], guard := some (3, true) }) (v := (.bool true)) rfl (by kernel_rfl) (by kernel_rfl) (by kernel_rfl) (fun _ _ _ h => h) (Or.inl ⟨by rfl, ?_⟩) hHeld1 ?_
  · rintro u ⟨hb, p0, p1, p2, p3, q0, q1, q2, q3⟩
    go_simp <;> first | rfl | kernel_rfl
  try simp only [Act.put, List.setIfInBounds_toArray, List.set_cons_zero, List.set_cons_succ]
  refine wpAnyH_take (i := 6) (oi := { dst := some 43, op := Op.pick (Operand.tmp 40) (Operand.tmp 42) (Operand.const (Value.bool false)), type := 4, pos := "law.go:35", after := #[{ on := 3, ground := Ground.data }, { on := 5, ground := Ground.data }], guard := none }) (v := (.bool true)) rfl (by kernel_rfl) (by kernel_rfl) (by kernel_rfl) (fun _ _ _ h => h) (Or.inl ⟨by rfl, ?_⟩) hHeld1 ?_
  · rintro u ⟨hb, p0, p1, p2, p3, q0, q1, q2, q3⟩
    go_simp <;> first | rfl | kernel_rfl
  try simp only [Act.put, List.setIfInBounds_toArray, List.set_cons_zero, List.set_cons_succ]
  refine wpAnyH_take (i := 7) (oi := { dst := some 44, op := Op.move (Operand.tmp 43), type := 4, pos := "law.go:35", after := #[{ on := 6, ground := Ground.data }, { on := 3, ground := Ground.chain }], guard := none }) (v := (.bool true)) rfl (by kernel_rfl) (by kernel_rfl) (by kernel_rfl) (fun _ _ _ h => h) (Or.inl ⟨by rfl, ?_⟩) hHeld1 ?_
  · rintro u ⟨hb, p0, p1, p2, p3, q0, q1, q2, q3⟩
    go_simp <;> first | rfl | kernel_rfl
  try simp only [Act.put, List.setIfInBounds_toArray, List.set_cons_zero, List.set_cons_succ]
  refine wpAnyH_take (i := 8) (oi := { dst := some 45, op := Op.move (Operand.tmp 3), type := 2, pos := "law.go:35", after := #[{ on := 7, ground := Ground.guard }], guard := some (7, true) }) (v := (.int .i64 5)) rfl (by kernel_rfl) (by kernel_rfl) (by kernel_rfl) (fun _ _ _ h => h) (Or.inl ⟨by rfl, ?_⟩) hHeld1 ?_
  · rintro u ⟨hb, p0, p1, p2, p3, q0, q1, q2, q3⟩
    go_simp <;> first | rfl | kernel_rfl
  try simp only [Act.put, List.setIfInBounds_toArray, List.set_cons_zero, List.set_cons_succ]
  refine wpAnyH_take (i := 9) (oi := { dst := some 46, op := Op.binOp BinOp.eql 2 (Operand.tmp 45) (Operand.const (Value.int IntKind.i64 5)) 2, type := 4, pos := "law.go:35", after := #[{ on := 8, ground := Ground.data }, { on := 7, ground := Ground.guard }], guard := some (7, true) }) (v := (.bool true)) rfl (by kernel_rfl) (by kernel_rfl) (by kernel_rfl) (fun _ _ _ h => h) (Or.inl ⟨by rfl, ?_⟩) hHeld1 ?_
  · rintro u ⟨hb, p0, p1, p2, p3, q0, q1, q2, q3⟩
    go_simp <;> first | rfl | kernel_rfl
  try simp only [Act.put, List.setIfInBounds_toArray, List.set_cons_zero, List.set_cons_succ]
  refine wpAnyH_take (i := 10) (oi := { dst := some 47, op := Op.pick (Operand.tmp 44) (Operand.tmp 46) (Operand.const (Value.bool false)), type := 4, pos := "law.go:35", after := #[{ on := 7, ground := Ground.data }, { on := 9, ground := Ground.data }], guard := none }) (v := (.bool true)) rfl (by kernel_rfl) (by kernel_rfl) (by kernel_rfl) (fun _ _ _ h => h) (Or.inl ⟨by rfl, ?_⟩) hHeld1 ?_
  · rintro u ⟨hb, p0, p1, p2, p3, q0, q1, q2, q3⟩
    go_simp <;> first | rfl | kernel_rfl
  try simp only [Act.put, List.setIfInBounds_toArray, List.set_cons_zero, List.set_cons_succ]
  refine wpAnyH_take (i := 11) (oi := { dst := some 48, op := Op.move (Operand.tmp 47), type := 4, pos := "law.go:35", after := #[{ on := 10, ground := Ground.data }, { on := 7, ground := Ground.chain }], guard := none }) (v := (.bool true)) rfl (by kernel_rfl) (by kernel_rfl) (by kernel_rfl) (fun _ _ _ h => h) (Or.inl ⟨by rfl, ?_⟩) hHeld1 ?_
  · rintro u ⟨hb, p0, p1, p2, p3, q0, q1, q2, q3⟩
    go_simp <;> first | rfl | kernel_rfl
  try simp only [Act.put, List.setIfInBounds_toArray, List.set_cons_zero, List.set_cons_succ]
  refine wpAnyH_take (i := 12) (oi := { dst := some 49, op := Op.move (Operand.tmp 4), type := 32, pos := "law.go:35", after := #[{ on := 11, ground := Ground.guard }], guard := some (11, true) }) (v := (.int .i64 0)) rfl (by kernel_rfl) (by kernel_rfl) (by kernel_rfl) (fun _ _ _ h => h) (Or.inl ⟨by rfl, ?_⟩) hHeld1 ?_
  · rintro u ⟨hb, p0, p1, p2, p3, q0, q1, q2, q3⟩
    go_simp <;> first | rfl | kernel_rfl
  try simp only [Act.put, List.setIfInBounds_toArray, List.set_cons_zero, List.set_cons_succ]
  refine wpAnyH_take (i := 13) (oi := { dst := some 50, op := Op.binOp BinOp.eql 32 (Operand.tmp 49) (Operand.const (Value.int IntKind.i64 0)) 32, type := 4, pos := "law.go:35", after := #[{ on := 12, ground := Ground.data }, { on := 11, ground := Ground.guard }], guard := some (11, true) }) (v := (.bool true)) rfl (by kernel_rfl) (by kernel_rfl) (by kernel_rfl) (fun _ _ _ h => h) (Or.inl ⟨by rfl, ?_⟩) hHeld1 ?_
  · rintro u ⟨hb, p0, p1, p2, p3, q0, q1, q2, q3⟩
    go_simp <;> first | rfl | kernel_rfl
  try simp only [Act.put, List.setIfInBounds_toArray, List.set_cons_zero, List.set_cons_succ]
  refine wpAnyH_take (i := 14) (oi := { dst := some 51, op := Op.pick (Operand.tmp 48) (Operand.tmp 50) (Operand.const (Value.bool false)), type := 4, pos := "law.go:35", after := #[{ on := 11, ground := Ground.data }, { on := 13, ground := Ground.data }], guard := none }) (v := (.bool true)) rfl (by kernel_rfl) (by kernel_rfl) (by kernel_rfl) (fun _ _ _ h => h) (Or.inl ⟨by rfl, ?_⟩) hHeld1 ?_
  · rintro u ⟨hb, p0, p1, p2, p3, q0, q1, q2, q3⟩
    go_simp <;> first | rfl | kernel_rfl
  try simp only [Act.put, List.setIfInBounds_toArray, List.set_cons_zero, List.set_cons_succ]
  refine wpAnyH_take (i := 15) (oi := { dst := some 52, op := Op.move (Operand.tmp 51), type := 4, pos := "law.go:35", after := #[{ on := 14, ground := Ground.data }, { on := 11, ground := Ground.chain }], guard := none }) (v := (.bool true)) rfl (by kernel_rfl) (by kernel_rfl) (by kernel_rfl) (fun _ _ _ h => h) (Or.inl ⟨by rfl, ?_⟩) hHeld1 ?_
  · rintro u ⟨hb, p0, p1, p2, p3, q0, q1, q2, q3⟩
    go_simp <;> first | rfl | kernel_rfl
  try simp only [Act.put, List.setIfInBounds_toArray, List.set_cons_zero, List.set_cons_succ]
  refine wpAnyH_take (i := 16) (oi := { dst := some 53, op := Op.move (Operand.tmp 5), type := 9, pos := "law.go:35", after := #[{ on := 15, ground := Ground.guard }], guard := some (15, true) }) (v := (.string ⟨#[1, 1, 0, 2, 135, 76, 0, 0, 10, 136, 48, 0, 0, 9]⟩)) rfl (by kernel_rfl) (by kernel_rfl) (by kernel_rfl) (fun _ _ _ h => h) (Or.inl ⟨by rfl, ?_⟩) hHeld1 ?_
  · rintro u ⟨hb, p0, p1, p2, p3, q0, q1, q2, q3⟩
    go_simp <;> first | rfl | kernel_rfl
  try simp only [Act.put, List.setIfInBounds_toArray, List.set_cons_zero, List.set_cons_succ]
  refine wpAnyH_take (i := 17) (oi := { dst := some 54, op := Op.binOp BinOp.eql 9 (Operand.tmp 53) (Operand.const (Value.string { data := #[1, 1, 0, 2, 135, 76, 0, 0, 10, 136, 48, 0, 0, 9] })) 9, type := 4, pos := "law.go:35", after := #[{ on := 16, ground := Ground.data }, { on := 15, ground := Ground.guard }], guard := some (15, true) }) (v := (.bool true)) rfl (by kernel_rfl) (by kernel_rfl) (by kernel_rfl) (fun _ _ _ h => h) (Or.inl ⟨by rfl, ?_⟩) hHeld1 ?_
  · rintro u ⟨hb, p0, p1, p2, p3, q0, q1, q2, q3⟩
    go_simp <;> first | rfl | kernel_rfl
  try simp only [Act.put, List.setIfInBounds_toArray, List.set_cons_zero, List.set_cons_succ]
  refine wpAnyH_take (i := 18) (oi := { dst := some 55, op := Op.pick (Operand.tmp 52) (Operand.tmp 54) (Operand.const (Value.bool false)), type := 4, pos := "law.go:35", after := #[{ on := 15, ground := Ground.data }, { on := 17, ground := Ground.data }], guard := none }) (v := (.bool true)) rfl (by kernel_rfl) (by kernel_rfl) (by kernel_rfl) (fun _ _ _ h => h) (Or.inl ⟨by rfl, ?_⟩) hHeld1 ?_
  · rintro u ⟨hb, p0, p1, p2, p3, q0, q1, q2, q3⟩
    go_simp <;> first | rfl | kernel_rfl
  try simp only [Act.put, List.setIfInBounds_toArray, List.set_cons_zero, List.set_cons_succ]
  refine wpAnyH_take (i := 19) (oi := { dst := some 56, op := Op.move (Operand.tmp 55), type := 4, pos := "law.go:35", after := #[{ on := 18, ground := Ground.data }, { on := 15, ground := Ground.chain }], guard := none }) (v := (.bool true)) rfl (by kernel_rfl) (by kernel_rfl) (by kernel_rfl) (fun _ _ _ h => h) (Or.inl ⟨by rfl, ?_⟩) hHeld1 ?_
  · rintro u ⟨hb, p0, p1, p2, p3, q0, q1, q2, q3⟩
    go_simp <;> first | rfl | kernel_rfl
  try simp only [Act.put, List.setIfInBounds_toArray, List.set_cons_zero, List.set_cons_succ]
  refine wpAnyH_take (i := 20) (oi := { dst := some 57, op := Op.move (Operand.tmp 6), type := 32, pos := "law.go:35", after := #[{ on := 19, ground := Ground.guard }], guard := some (19, true) }) (v := (.int .i64 0)) rfl (by kernel_rfl) (by kernel_rfl) (by kernel_rfl) (fun _ _ _ h => h) (Or.inl ⟨by rfl, ?_⟩) hHeld1 ?_
  · rintro u ⟨hb, p0, p1, p2, p3, q0, q1, q2, q3⟩
    go_simp <;> first | rfl | kernel_rfl
  try simp only [Act.put, List.setIfInBounds_toArray, List.set_cons_zero, List.set_cons_succ]
  refine wpAnyH_take (i := 21) (oi := { dst := some 58, op := Op.binOp BinOp.eql 32 (Operand.tmp 57) (Operand.const (Value.int IntKind.i64 0)) 32, type := 4, pos := "law.go:35", after := #[{ on := 20, ground := Ground.data }, { on := 19, ground := Ground.guard }], guard := some (19, true) }) (v := (.bool true)) rfl (by kernel_rfl) (by kernel_rfl) (by kernel_rfl) (fun _ _ _ h => h) (Or.inl ⟨by rfl, ?_⟩) hHeld1 ?_
  · rintro u ⟨hb, p0, p1, p2, p3, q0, q1, q2, q3⟩
    go_simp <;> first | rfl | kernel_rfl
  try simp only [Act.put, List.setIfInBounds_toArray, List.set_cons_zero, List.set_cons_succ]
  refine wpAnyH_take (i := 22) (oi := { dst := some 59, op := Op.pick (Operand.tmp 56) (Operand.tmp 58) (Operand.const (Value.bool false)), type := 4, pos := "law.go:35", after := #[{ on := 19, ground := Ground.data }, { on := 21, ground := Ground.data }], guard := none }) (v := (.bool true)) rfl (by kernel_rfl) (by kernel_rfl) (by kernel_rfl) (fun _ _ _ h => h) (Or.inl ⟨by rfl, ?_⟩) hHeld1 ?_
  · rintro u ⟨hb, p0, p1, p2, p3, q0, q1, q2, q3⟩
    go_simp <;> first | rfl | kernel_rfl
  try simp only [Act.put, List.setIfInBounds_toArray, List.set_cons_zero, List.set_cons_succ]
  refine wpAnyH_take (i := 23) (oi := { dst := some 60, op := Op.move (Operand.tmp 59), type := 4, pos := "law.go:35", after := #[{ on := 22, ground := Ground.data }, { on := 19, ground := Ground.chain }], guard := none }) (v := (.bool true)) rfl (by kernel_rfl) (by kernel_rfl) (by kernel_rfl) (fun _ _ _ h => h) (Or.inl ⟨by rfl, ?_⟩) hHeld1 ?_
  · rintro u ⟨hb, p0, p1, p2, p3, q0, q1, q2, q3⟩
    go_simp <;> first | rfl | kernel_rfl
  try simp only [Act.put, List.setIfInBounds_toArray, List.set_cons_zero, List.set_cons_succ]
  refine wpAnyH_take (i := 24) (oi := { dst := some 61, op := Op.load 25 (Operand.tmp 7), type := 25, pos := "law.go:35", after := #[{ on := 23, ground := Ground.guard }], guard := some (23, true) }) (v := (.agg #[.int .i64 1, .int .u8 1, .int .u64 0, .slice (some ⟨b3, 0, none⟩) 2 2])) rfl (by kernel_rfl) (by kernel_rfl) (by kernel_rfl) (fun _ _ _ h => h) (Or.inl ⟨by rfl, ?_⟩) hHeld1 ?_
  · rintro u ⟨hb, p0, p1, p2, p3, q0, q1, q2, q3⟩
    go_simp <;> first | rfl | kernel_rfl
  try simp only [Act.put, List.setIfInBounds_toArray, List.set_cons_zero, List.set_cons_succ]
  refine wpAnyH_ready (rs := [25]) (by kernel_rfl) (by simp) ?_
  refine AllReadyH.cons (o := { dst := some 62, op := Op.call { callee := Callee.value (Operand.func 16), args := #[Operand.tmp 61], argTypes := #[25] }, type := 32, pos := "law.go:35", after := #[{ on := 24, ground := Ground.data }, { on := 23, ground := Ground.chain }, { on := 23, ground := Ground.guard }], guard := some (23, true) }) rfl (fun Kq hKq => ?_) AllReadyH.nil
  go_simp
  refine (KC2.out _ hHeld1.1).mono ?_
  rintro _ V2 ⟨rfl, hb2⟩
  go_simp
  refine hKq.out _ _ ((HS.out _ (hHeld1.1.trans (hb2.mono hHeld1.1.size)))) (fun hHeld25 => ?_)
  clear hKq Kq
  try simp only [Act.put, List.setIfInBounds_toArray, List.set_cons_zero, List.set_cons_succ]
  refine wpAnyH_take (i := 26) (oi := { dst := some 63, op := Op.binOp BinOp.eql 32 (Operand.tmp 62) (Operand.const (Value.int IntKind.i64 200)) 32, type := 4, pos := "law.go:35", after := #[{ on := 25, ground := Ground.data }, { on := 23, ground := Ground.guard }], guard := some (23, true) }) (v := (.bool true)) rfl (by kernel_rfl) (by kernel_rfl) (by kernel_rfl) (fun _ _ _ h => h) (Or.inl ⟨by rfl, ?_⟩) hHeld25 ?_
  · rintro u ⟨hb, p0, p1, p2, p3, q0, q1, q2, q3⟩
    go_simp <;> first | rfl | kernel_rfl
  try simp only [Act.put, List.setIfInBounds_toArray, List.set_cons_zero, List.set_cons_succ]
  refine wpAnyH_take (i := 27) (oi := { dst := some 64, op := Op.pick (Operand.tmp 60) (Operand.tmp 63) (Operand.const (Value.bool false)), type := 4, pos := "law.go:35", after := #[{ on := 23, ground := Ground.data }, { on := 26, ground := Ground.data }], guard := none }) (v := (.bool true)) rfl (by kernel_rfl) (by kernel_rfl) (by kernel_rfl) (fun _ _ _ h => h) (Or.inl ⟨by rfl, ?_⟩) hHeld25 ?_
  · rintro u ⟨hb, p0, p1, p2, p3, q0, q1, q2, q3⟩
    go_simp <;> first | rfl | kernel_rfl
  try simp only [Act.put, List.setIfInBounds_toArray, List.set_cons_zero, List.set_cons_succ]
  refine wpAnyH_take (i := 28) (oi := { dst := some 65, op := Op.move (Operand.tmp 64), type := 4, pos := "law.go:35", after := #[{ on := 27, ground := Ground.data }, { on := 25, ground := Ground.chain }], guard := none }) (v := (.bool true)) rfl (by kernel_rfl) (by kernel_rfl) (by kernel_rfl) (fun _ _ _ h => h) (Or.inl ⟨by rfl, ?_⟩) hHeld25 ?_
  · rintro u ⟨hb, p0, p1, p2, p3, q0, q1, q2, q3⟩
    go_simp <;> first | rfl | kernel_rfl
  try simp only [Act.put, List.setIfInBounds_toArray, List.set_cons_zero, List.set_cons_succ]
  refine wpAnyH_take (i := 29) (oi := { dst := some 66, op := Op.move (Operand.tmp 8), type := 23, pos := "law.go:35", after := #[{ on := 28, ground := Ground.guard }], guard := some (28, true) }) (v := (.slice ta 1 tc)) rfl (by kernel_rfl) (by kernel_rfl) (by kernel_rfl) (fun _ _ _ h => h) (Or.inl ⟨by rfl, ?_⟩) hHeld25 ?_
  · rintro u ⟨hb, p0, p1, p2, p3, q0, q1, q2, q3⟩
    go_simp <;> first | rfl | kernel_rfl
  try simp only [Act.put, List.setIfInBounds_toArray, List.set_cons_zero, List.set_cons_succ]
  refine wpAnyH_take (i := 30) (oi := { dst := some 67, op := Op.build 67 #[(0, Operand.const (Value.int IntKind.i64 1100)), (3, Operand.const (Value.int IntKind.i64 3))], type := 67, pos := "law.go:35", after := #[{ on := 28, ground := Ground.guard }], guard := some (28, true) }) (v := (.agg #[.int .i64 1100, .int .u64 0, .int .u64 0, .int .i64 3])) rfl (by kernel_rfl) (by kernel_rfl) (by kernel_rfl) (fun _ _ _ h => h) (Or.inl ⟨by rfl, ?_⟩) hHeld25 ?_
  · rintro u ⟨hb, p0, p1, p2, p3, q0, q1, q2, q3⟩
    go_simp <;> first | rfl | kernel_rfl
  try simp only [Act.put, List.setIfInBounds_toArray, List.set_cons_zero, List.set_cons_succ]
  refine wpAnyH_ready (rs := [31]) (by kernel_rfl) (by simp) ?_
  refine AllReadyH.cons (o := { dst := some 68, op := Op.buildSlice 23 1 #[(0, Operand.tmp 67)], type := 23, pos := "law.go:35", after := #[{ on := 30, ground := Ground.data }, { on := 28, ground := Ground.guard }], guard := some (28, true) }) rfl (fun Kq hKq => ?_) AllReadyH.nil
  go_simp
  have RZ : Hid (Rw (V2.alloc (.cells #[.int .i64 1100, .int .u64 0, .int .u64 0, .int .i64 3] TLine)) V2.heap.size TLine (flatL LD)) := Rw.new V2 [.int .i64 1100, .int .u64 0, .int .u64 0, .int .i64 3] TLine
  refine hKq.out _ _ ((HS.out _ (hHeld25.1.trans (((Below.refl _ V2).alloc (Nat.le_refl _) _).mono hHeld25.1.size)))) (fun hHeld31 => ?_)
  clear hKq Kq
  try simp only [Act.put, List.setIfInBounds_toArray, List.set_cons_zero, List.set_cons_succ]
  generalize V2.alloc (.cells #[.int .i64 1100, .int .u64 0, .int .u64 0, .int .i64 3] TLine) = V3 at RZ hHeld31 ⊢
  generalize V2.heap.size = bz at RZ ⊢
  refine wpAnyH_ready (rs := [32]) (by kernel_rfl) (by simp) ?_
  refine AllReadyH.cons (o := { dst := some 69, op := Op.call { callee := Callee.value (Operand.func 24), args := #[Operand.tmp 66, Operand.tmp 68], argTypes := #[23, 23] }, type := 4, pos := "law.go:35", after := #[{ on := 29, ground := Ground.data }, { on := 31, ground := Ground.data }, { on := 28, ground := Ground.chain }, { on := 28, ground := Ground.guard }], guard := some (28, true) }) rfl (fun Kq hKq => ?_) AllReadyH.nil
  go_simp
  refine (KSL.out _ bz hHeld31.1 RZ.out).mono ?_
  rintro _ V4 ⟨rfl, hb4⟩
  go_simp
  refine hKq.out _ _ ((HS.out _ (hHeld31.1.trans (hb4.mono hHeld31.1.size)))) (fun hHeld32 => ?_)
  clear hKq Kq
  try simp only [Act.put, List.setIfInBounds_toArray, List.set_cons_zero, List.set_cons_succ]
  refine wpAnyH_take (i := 33) (oi := { dst := some 70, op := Op.pick (Operand.tmp 65) (Operand.tmp 69) (Operand.const (Value.bool false)), type := 4, pos := "law.go:35", after := #[{ on := 28, ground := Ground.data }, { on := 32, ground := Ground.data }], guard := none }) (v := (.bool true)) rfl (by kernel_rfl) (by kernel_rfl) (by kernel_rfl) (fun _ _ _ h => h) (Or.inl ⟨by rfl, ?_⟩) hHeld32 ?_
  · rintro u ⟨hb, p0, p1, p2, p3, q0, q1, q2, q3⟩
    go_simp <;> first | rfl | kernel_rfl
  try simp only [Act.put, List.setIfInBounds_toArray, List.set_cons_zero, List.set_cons_succ]
  refine wpAnyH_take (i := 34) (oi := { dst := some 71, op := Op.move (Operand.tmp 70), type := 4, pos := "law.go:35", after := #[{ on := 33, ground := Ground.data }, { on := 32, ground := Ground.chain }], guard := none }) (v := (.bool true)) rfl (by kernel_rfl) (by kernel_rfl) (by kernel_rfl) (fun _ _ _ h => h) (Or.inl ⟨by rfl, ?_⟩) hHeld32 ?_
  · rintro u ⟨hb, p0, p1, p2, p3, q0, q1, q2, q3⟩
    go_simp <;> first | rfl | kernel_rfl
  try simp only [Act.put, List.setIfInBounds_toArray, List.set_cons_zero, List.set_cons_succ]
  refine wpAnyH_take (i := 35) (oi := { dst := some 72, op := Op.move (Operand.tmp 9), type := 32, pos := "law.go:35", after := #[{ on := 34, ground := Ground.guard }], guard := some (34, true) }) (v := (.int .i64 0)) rfl (by kernel_rfl) (by kernel_rfl) (by kernel_rfl) (fun _ _ _ h => h) (Or.inl ⟨by rfl, ?_⟩) hHeld32 ?_
  · rintro u ⟨hb, p0, p1, p2, p3, q0, q1, q2, q3⟩
    go_simp <;> first | rfl | kernel_rfl
  try simp only [Act.put, List.setIfInBounds_toArray, List.set_cons_zero, List.set_cons_succ]
  refine wpAnyH_take (i := 36) (oi := { dst := some 73, op := Op.binOp BinOp.eql 32 (Operand.tmp 72) (Operand.const (Value.int IntKind.i64 0)) 32, type := 4, pos := "law.go:35", after := #[{ on := 35, ground := Ground.data }, { on := 34, ground := Ground.guard }], guard := some (34, true) }) (v := (.bool true)) rfl (by kernel_rfl) (by kernel_rfl) (by kernel_rfl) (fun _ _ _ h => h) (Or.inl ⟨by rfl, ?_⟩) hHeld32 ?_
  · rintro u ⟨hb, p0, p1, p2, p3, q0, q1, q2, q3⟩
    go_simp <;> first | rfl | kernel_rfl
  try simp only [Act.put, List.setIfInBounds_toArray, List.set_cons_zero, List.set_cons_succ]
  refine wpAnyH_take (i := 37) (oi := { dst := some 74, op := Op.pick (Operand.tmp 71) (Operand.tmp 73) (Operand.const (Value.bool false)), type := 4, pos := "law.go:35", after := #[{ on := 34, ground := Ground.data }, { on := 36, ground := Ground.data }], guard := none }) (v := (.bool true)) rfl (by kernel_rfl) (by kernel_rfl) (by kernel_rfl) (fun _ _ _ h => h) (Or.inl ⟨by rfl, ?_⟩) hHeld32 ?_
  · rintro u ⟨hb, p0, p1, p2, p3, q0, q1, q2, q3⟩
    go_simp <;> first | rfl | kernel_rfl
  try simp only [Act.put, List.setIfInBounds_toArray, List.set_cons_zero, List.set_cons_succ]
  refine wpAnyH_take (i := 38) (oi := { dst := some 75, op := Op.move (Operand.tmp 74), type := 4, pos := "law.go:35", after := #[{ on := 37, ground := Ground.data }, { on := 34, ground := Ground.chain }], guard := none }) (v := (.bool true)) rfl (by kernel_rfl) (by kernel_rfl) (by kernel_rfl) (fun _ _ _ h => h) (Or.inl ⟨by rfl, ?_⟩) hHeld32 ?_
  · rintro u ⟨hb, p0, p1, p2, p3, q0, q1, q2, q3⟩
    go_simp <;> first | rfl | kernel_rfl
  try simp only [Act.put, List.setIfInBounds_toArray, List.set_cons_zero, List.set_cons_succ]
  refine wpAnyH_take (i := 40) (oi := { dst := some 77, op := Op.load 25 (Operand.tmp 1), type := 25, pos := "law.go:35", after := #[{ on := 38, ground := Ground.guard }], guard := some (38, true) }) (v := (.agg #[.int .i64 1, .int .u8 1, .int .u64 0, .slice (some ⟨lo, 0, none⟩) 2 2])) rfl (by kernel_rfl) (by kernel_rfl) (by kernel_rfl) (fun _ _ _ h => h) (Or.inl ⟨by rfl, ?_⟩) hHeld32 ?_
  · rintro u ⟨hb, p0, p1, p2, p3, q0, q1, q2, q3⟩
    go_simp <;> first | rfl | kernel_rfl
  try simp only [Act.put, List.setIfInBounds_toArray, List.set_cons_zero, List.set_cons_succ]
  refine wpAnyH_ready (rs := [39]) (by kernel_rfl) (by simp) ?_
  refine AllReadyH.cons (o := { dst := some 76, op := Op.call { callee := Callee.value (Operand.func 10), args := #[Operand.const (Value.slice none 0 0)], argTypes := #[26] }, type := 30, pos := "law.go:35", after := #[{ on := 38, ground := Ground.chain }, { on := 38, ground := Ground.guard }], guard := some (38, true) }) rfl (fun Kq hKq => ?_) AllReadyH.nil
  go_simp
  refine (KST.out _).mono ?_
  rintro _ V5 ⟨cc, KK, NN, rfl, hct, hb5⟩
  have HCT := Lib.hid hct
  clear hct
  go_simp
  refine hKq.out _ _ ((HS.out _ (hHeld32.1.trans (hb5.mono hHeld32.1.size)))) (fun hHeld39 => ?_)
  clear hKq Kq
  try simp only [Act.put, List.setIfInBounds_toArray, List.set_cons_zero, List.set_cons_succ]
  refine wpAnyH_ready (rs := [41]) (by kernel_rfl) (by simp) ?_
  refine AllReadyH.cons (o := { dst := some 78, op := Op.call { callee := Callee.value (Operand.func 18), args := #[Operand.tmp 76, Operand.tmp 77], argTypes := #[30, 25] }, type := 32, pos := "law.go:35", after := #[{ on := 39, ground := Ground.data }, { on := 40, ground := Ground.data }, { on := 39, ground := Ground.chain }, { on := 38, ground := Ground.guard }], guard := some (38, true) }) rfl (fun Kq hKq => ?_) AllReadyH.nil
  go_simp
  refine (KON.out _ _ _ _ _ hHeld39.1 HCT.out).mono ?_
  rintro _ V6 ⟨rfl, hb6⟩
  go_simp
  refine hKq.out _ _ ((HS.out _ (hHeld39.1.trans (hb6.mono hHeld39.1.size)))) (fun hHeld41 => ?_)
  clear hKq Kq
  try simp only [Act.put, List.setIfInBounds_toArray, List.set_cons_zero, List.set_cons_succ]
  refine wpAnyH_take (i := 42) (oi := { dst := some 79, op := Op.binOp BinOp.eql 32 (Operand.tmp 78) (Operand.const (Value.int IntKind.i64 0)) 32, type := 4, pos := "law.go:35", after := #[{ on := 41, ground := Ground.data }, { on := 38, ground := Ground.guard }], guard := some (38, true) }) (v := (.bool true)) rfl (by kernel_rfl) (by kernel_rfl) (by kernel_rfl) (fun _ _ _ h => h) (Or.inl ⟨by rfl, ?_⟩) hHeld41 ?_
  · rintro u ⟨hb, p0, p1, p2, p3, q0, q1, q2, q3⟩
    go_simp <;> first | rfl | kernel_rfl
  try simp only [Act.put, List.setIfInBounds_toArray, List.set_cons_zero, List.set_cons_succ]
  refine wpAnyH_take (i := 43) (oi := { dst := some 80, op := Op.pick (Operand.tmp 75) (Operand.tmp 79) (Operand.const (Value.bool false)), type := 4, pos := "law.go:35", after := #[{ on := 38, ground := Ground.data }, { on := 42, ground := Ground.data }], guard := none }) (v := (.bool true)) rfl (by kernel_rfl) (by kernel_rfl) (by kernel_rfl) (fun _ _ _ h => h) (Or.inl ⟨by rfl, ?_⟩) hHeld41 ?_
  · rintro u ⟨hb, p0, p1, p2, p3, q0, q1, q2, q3⟩
    go_simp <;> first | rfl | kernel_rfl
  try simp only [Act.put, List.setIfInBounds_toArray, List.set_cons_zero, List.set_cons_succ]
  refine wpAnyH_take (i := 44) (oi := { dst := some 81, op := Op.move (Operand.tmp 80), type := 4, pos := "law.go:35", after := #[{ on := 43, ground := Ground.data }, { on := 41, ground := Ground.chain }], guard := none }) (v := (.bool true)) rfl (by kernel_rfl) (by kernel_rfl) (by kernel_rfl) (fun _ _ _ h => h) (Or.inl ⟨by rfl, ?_⟩) hHeld41 ?_
  · rintro u ⟨hb, p0, p1, p2, p3, q0, q1, q2, q3⟩
    go_simp <;> first | rfl | kernel_rfl
  try simp only [Act.put, List.setIfInBounds_toArray, List.set_cons_zero, List.set_cons_succ]
  refine wpAnyH_take (i := 45) (oi := { dst := some 82, op := Op.load 25 (Operand.tmp 1), type := 25, pos := "law.go:35", after := #[{ on := 44, ground := Ground.guard }], guard := some (44, true) }) (v := (.agg #[.int .i64 1, .int .u8 1, .int .u64 0, .slice (some ⟨lo, 0, none⟩) 2 2])) rfl (by kernel_rfl) (by kernel_rfl) (by kernel_rfl) (fun _ _ _ h => h) (Or.inl ⟨by rfl, ?_⟩) hHeld41 ?_
  · rintro u ⟨hb, p0, p1, p2, p3, q0, q1, q2, q3⟩
    go_simp <;> first | rfl | kernel_rfl
  try simp only [Act.put, List.setIfInBounds_toArray, List.set_cons_zero, List.set_cons_succ]
  refine wpAnyH_ready (rs := [46]) (by kernel_rfl) (by simp) ?_
  refine AllReadyH.cons (o := { dst := some 83, op := Op.call { callee := Callee.value (Operand.func 18), args := #[Operand.const (Value.pointer none), Operand.tmp 82], argTypes := #[30, 25] }, type := 32, pos := "law.go:35", after := #[{ on := 45, ground := Ground.data }, { on := 44, ground := Ground.chain }, { on := 44, ground := Ground.guard }], guard := some (44, true) }) rfl (fun Kq hKq => ?_) AllReadyH.nil
  go_simp
  refine (KNL.out _).mono ?_
  rintro _ V7 ⟨rfl, hb7⟩
  go_simp
  refine hKq.out _ _ ((HS.out _ (hHeld41.1.trans (hb7.mono hHeld41.1.size)))) (fun hHeld46 => ?_)
  clear hKq Kq
  try simp only [Act.put, List.setIfInBounds_toArray, List.set_cons_zero, List.set_cons_succ]
  refine wpAnyH_take (i := 47) (oi := { dst := some 84, op := Op.binOp BinOp.eql 32 (Operand.tmp 83) (Operand.const (Value.int IntKind.i64 1)) 32, type := 4, pos := "law.go:35", after := #[{ on := 46, ground := Ground.data }, { on := 44, ground := Ground.guard }], guard := some (44, true) }) (v := (.bool true)) rfl (by kernel_rfl) (by kernel_rfl) (by kernel_rfl) (fun _ _ _ h => h) (Or.inl ⟨by rfl, ?_⟩) hHeld46 ?_
  · rintro u ⟨hb, p0, p1, p2, p3, q0, q1, q2, q3⟩
    go_simp <;> first | rfl | kernel_rfl
  try simp only [Act.put, List.setIfInBounds_toArray, List.set_cons_zero, List.set_cons_succ]
  refine wpAnyH_take (i := 48) (oi := { dst := some 85, op := Op.pick (Operand.tmp 81) (Operand.tmp 84) (Operand.const (Value.bool false)), type := 4, pos := "law.go:35", after := #[{ on := 44, ground := Ground.data }, { on := 47, ground := Ground.data }], guard := none }) (v := (.bool true)) rfl (by kernel_rfl) (by kernel_rfl) (by kernel_rfl) (fun _ _ _ h => h) (Or.inl ⟨by rfl, ?_⟩) hHeld46 ?_
  · rintro u ⟨hb, p0, p1, p2, p3, q0, q1, q2, q3⟩
    go_simp <;> first | rfl | kernel_rfl
  try simp only [Act.put, List.setIfInBounds_toArray, List.set_cons_zero, List.set_cons_succ]
  refine wpAnyH_take (i := 49) (oi := { dst := some 0, op := Op.assign (Operand.tmp 85), type := 4, pos := "law.go:35", after := #[{ on := 48, ground := Ground.data }, { on := 46, ground := Ground.chain }, { on := 0, ground := Ground.phase }, { on := 1, ground := Ground.phase }, { on := 2, ground := Ground.phase }, { on := 3, ground := Ground.phase }, { on := 4, ground := Ground.phase }, { on := 5, ground := Ground.phase }, { on := 6, ground := Ground.phase }, { on := 7, ground := Ground.phase }, { on := 8, ground := Ground.phase }, { on := 9, ground := Ground.phase }, { on := 10, ground := Ground.phase }, { on := 11, ground := Ground.phase }, { on := 12, ground := Ground.phase }, { on := 13, ground := Ground.phase }, { on := 14, ground := Ground.phase }, { on := 15, ground := Ground.phase }, { on := 16, ground := Ground.phase }, { on := 17, ground := Ground.phase }, { on := 18, ground := Ground.phase }, { on := 19, ground := Ground.phase }, { on := 20, ground := Ground.phase }, { on := 21, ground := Ground.phase }, { on := 22, ground := Ground.phase }, { on := 23, ground := Ground.phase }, { on := 24, ground := Ground.phase }, { on := 25, ground := Ground.phase }, { on := 26, ground := Ground.phase }, { on := 27, ground := Ground.phase }, { on := 28, ground := Ground.phase }, { on := 29, ground := Ground.phase }, { on := 30, ground := Ground.phase }, { on := 31, ground := Ground.phase }, { on := 32, ground := Ground.phase }, { on := 33, ground := Ground.phase }, { on := 34, ground := Ground.phase }, { on := 35, ground := Ground.phase }, { on := 36, ground := Ground.phase }, { on := 37, ground := Ground.phase }, { on := 38, ground := Ground.phase }, { on := 39, ground := Ground.phase }, { on := 40, ground := Ground.phase }, { on := 41, ground := Ground.phase }, { on := 42, ground := Ground.phase }, { on := 43, ground := Ground.phase }, { on := 44, ground := Ground.phase }, { on := 45, ground := Ground.phase }, { on := 46, ground := Ground.phase }, { on := 47, ground := Ground.phase }, { on := 48, ground := Ground.phase }], guard := none }) (v := (.bool true)) rfl (by kernel_rfl) (by kernel_rfl) (by kernel_rfl) (fun _ _ _ h => h) (Or.inl ⟨by rfl, ?_⟩) hHeld46 ?_
  · rintro u ⟨hb, p0, p1, p2, p3, q0, q1, q2, q3⟩
    go_simp <;> first | rfl | kernel_rfl
  try simp only [Act.put, List.setIfInBounds_toArray, List.set_cons_zero]
  refine wpAnyH_done (by kernel_rfl) ?_ _
  go_wp2_with fail
  go_ret
  exact ⟨rfl, by rw [← HLO.out]; exact HB7.out.trans (hHeld46.1.mono (by rw [HLO.out]; exact HB7.out.size))⟩
end
end Go.Proofs.Ytnblilonjpfdnaa.Jn
