/- Package drive: the document's example. -/
import Derived.Test.YthoafaaemikiaaaDvCopy
namespace Go.Proofs.Ythoafaaemikiaaa.Dv
open Go Go.RowKit Rf
theorem sync_c (g bv bd : Nat) (pv fv : Value) (x : Dr) (w : World) (hA : At w g bv bd pv fv x) (hx : x.Ok) (hP : x.P.length ≤ 100000) : Calls Try.prog 11 #[.pointer (some ⟨g, 0, Option.none⟩)] w fun e w' => e = .returned (.int .i64 x.sync.2) ∧ Left g bv bd pv fv x.sync.1 w w' := by
  unfold Dr.sync
  cases hF : burn x.F with
  | none => exact (sync_no g bv bd pv fv x w hA hx hF).mono fun e w' h => ⟨h.1, h.2 ▸ Left.same hA (Below.refl _ w)⟩
  | some F => exact (sync_yes g bv bd pv fv x F w hA hx hP hF).mono fun e w' h => h

set_option maxHeartbeats 1600000 in
theorem readh_c (g bv bd : Nat) (pv fv : Value) (x : Dr) (n many : Nat) (w : World) (hA : At w g bv bd pv fv x) (hx : x.Ok) (hn : n < x.D.length) (hm : many ≤ 64) (S : ByteArray) (hS : S.data.toList = (x.V.getD n []).take many) :
    Calls Try.prog 21 #[.pointer (some ⟨g, 0, Option.none⟩), .int .i64 (n : Int), .int .i64 (many : Int)] w fun e w' => e = .returned (.string S) ∧ Below w.heap.size w w' := by
  have hr : x.read (n : Int) = (x.V.getD n [], 0) := by unfold Dr.read; rw [if_neg (by omega)]; rfl
  have hnV : n < x.V.length := by rw [Dr.vlen]; exact hn
  have hlen : (x.V.getD n []).length = 64 := by rw [List.getD_eq_getElem?_getD, List.getElem?_eq_getElem hnV]; exact hx.v _ (List.getElem_mem hnV)
  have hK := read_c g bv bd pv fv x (n : Int) w hA hx
  unfold RdRes at hK
  rw [hr] at hK
  obtain ⟨B, hB⟩ : ∃ B : ByteArray, (⟨(x.V.getD n []).toArray⟩ : ByteArray) = B := ⟨_, rfl⟩
  simp only [hB] at hK
  have hBs : B.size = 64 := by rw [← hB]; show (x.V.getD n []).toArray.size = 64; simpa using hlen
  have hSe : B.extract 0 many = S := by
    have : (B.extract 0 many).data.toList = S.data.toList := by
      rw [hS, ← hB, Lib.extract_data]
      simp
    cases S with
    | mk d => 
      cases h : B.extract 0 many with
      | mk d2 =>
        rw [h] at this
        congr 1
        exact Array.toList_inj.1 this
  have K := Lib.hid hK
  have HSE := Lib.hid hSe
  have g1 : ¬ (B.size : Int) < (many : Int) := by omega
  have g2 : many ≤ B.size := by omega
  clear hK hB hr hS hlen hA hx hn hSe
  go_enter Try.func21, Try.ntmps21
  go_wp2_with fail
  refine K.out.mono ?_
  rintro e w' ⟨rfl, hb⟩
  go_wp2_with fail
  go_ret
  exact ⟨by rw [← HSE.out]; rfl, hb⟩
end Go.Proofs.Ythoafaaemikiaaa.Dv
