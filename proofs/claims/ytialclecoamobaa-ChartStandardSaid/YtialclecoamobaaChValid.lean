/- Package chart: valid. -/
import Derived.Test.YtialclecoamobaaChOps
namespace Go.Proofs.Ytialclecoamobaa.Ch
open Go Go.RowKit Ck Go.Maps
/-- An account as it is told. -/
structure A5 where
  code : Int
  up : Int
  cls : Int
  name : ByteArray
  shut : Bool
def A5.cells (a : A5) : List Value := [.int .i64 a.code, .int .i64 a.up, .int .u8 a.cls, .string a.name, .bool a.shut]
def A5.val (a : A5) : Value := .agg #[.int .i64 a.code, .int .i64 a.up, .int .u8 a.cls, .string a.name, .bool a.shut]
def A5.validB (a : A5) : Bool := decide (1 ≤ a.code) && decide (a.code ≤ 9999) && decide (sideM a.cls ≠ 0) && (!a.name.toList.isEmpty) && decide (a.name.size ≤ 60) && !a.shut
structure A5.Fits (a : A5) : Prop where
  code : I64 a.code
  up : I64 a.up
  name : a.name.size ≤ 9223372036854775807
set_option maxRecDepth 100000 in
theorem valid_c (a : A5) (w : World) (hf : a.Fits) : Calls Try.prog 30 #[a.val] w fun e w' => e = .returned (.bool a.validB) ∧ Below w.heap.size w w' := by
  obtain ⟨code, up, cls, name, shut⟩ := a
  have hn := hf.name
  simp only at hn
  clear hf
  have HB : Hid (Below w.heap.size w (w.alloc (.cells #[.int .i64 code, .int .i64 up, .int .u8 cls, .string name, .bool shut] 27))) := (Below.refl _ w).alloc (Nat.le_refl _) _
  have KS : Hid (∀ u, Calls Try.prog 13 #[.int .u8 cls] u fun e w' => e = .returned (.int .i64 (sideM cls)) ∧ u = w') := fun u => side_c u cls
  obtain ⟨sd, hsd⟩ : ∃ sd, sd = sideM cls := ⟨_, rfl⟩
  have HV : Hid (A5.validB ⟨code, up, cls, name, shut⟩ = (decide (1 ≤ code) && decide (code ≤ 9999) && decide (sd ≠ 0) && (!name.toList.isEmpty) && decide (name.size ≤ 60) && !shut)) := by rw [hsd]; rfl
  rw [← hsd] at KS
  rw [HV.out]
  clear hsd HV
  unfold A5.val
  simp only
  obtain ⟨r, hr⟩ : ∃ r, r = (decide (1 ≤ code) && decide (code ≤ 9999) && decide (sd ≠ 0) && (!name.toList.isEmpty) && decide (name.size ≤ 60) && !shut) := ⟨_, rfl⟩
  rw [← hr]
  by_cases h1 : 1 ≤ code
  case neg =>
    have hv : r = false := by rw [hr]; simp [h1]
    rw [hv]
    clear hv hr
    go_enter Try.func30, Try.ntmps30
    go_wp2_with fail
    go_ret
    exact ⟨rfl, HB.out⟩
  by_cases h2 : code ≤ 9999
  case neg =>
    have hv : r = false := by rw [hr]; simp [h2]
    rw [hv]
    clear hv hr
    go_enter Try.func30, Try.ntmps30
    go_wp2_with fail
    go_ret
    exact ⟨rfl, HB.out⟩
  by_cases h3 : sd = 0
  case pos =>
    have hv : r = false := by rw [hr]; simp [h3]
    rw [hv]
    clear hv hr
    subst h3
    go_enter Try.func30, Try.ntmps30
    go_wp2_with fail
    refine (KS.out _).mono ?_
    rintro e w' ⟨rfl, rfl⟩
    go_wp2_with fail
    go_ret
    exact ⟨rfl, HB.out⟩
  cases h4 : name.toList.isEmpty with
  | true =>
    have b3 : (sd != 0) = true := by simpa using h3
    have hv : r = false := by rw [hr]; simp [h4]
    rw [hv]
    clear hv hr
    go_enter Try.func30, Try.ntmps30
    go_wp2_with fail
    refine (KS.out _).mono ?_
    rintro e w' ⟨rfl, rfl⟩
    go_wp2_with fail
    go_ret
    exact ⟨rfl, HB.out⟩
  | false =>
    have b3 : (sd != 0) = true := by simpa using h3
    by_cases h5 : name.size ≤ 60
    case neg =>
      have hv : r = false := by rw [hr]; simp [h5]
      rw [hv]
      clear hv hr
      have h5' : ¬ (name.size : Int) ≤ 60 := by omega
      clear h5
      go_enter Try.func30, Try.ntmps30
      go_wp2_with fail
      refine (KS.out _).mono ?_
      rintro e w' ⟨rfl, rfl⟩
      go_wp2_with fail
      go_ret
      exact ⟨rfl, HB.out⟩
    have hv : r = !shut := by rw [hr]; simp [h1, h2, h3, h4, h5]
    rw [hv]
    clear hv hr
    have h5' : (name.size : Int) ≤ 60 := by omega
    clear h5
    go_enter Try.func30, Try.ntmps30
    go_wp2_with fail
    refine (KS.out _).mono ?_
    rintro e w' ⟨rfl, rfl⟩
    go_wp2_with fail
    go_ret
    exact ⟨rfl, HB.out⟩
end Go.Proofs.Ytialclecoamobaa.Ch
