/- Package slices: rotateCmpFunc at the shares of package split. -/
import Derived.Test.YtinfjfjheimceaaSoSwap
namespace Go.Proofs.Ytinfjfjheimceaa.So
open Go Go.Sort Go.RowKit Go.Lib
theorem swap_c' {α : Type} [Inhabited α] (enc : α → List Value) (k : Nat) (hk3 : k = 3) (blk off cap a b n g sz : Nat) (A B N : Int) (hA : A = (a : Int)) (hB : B = (b : Int)) (hN : N = (n : Int)) (cb : Array Value) (d0 d : Array α) (w0 w : World) (R : RowK enc k w0 blk off d0) (hs : d0.size = d.size) (S : SWK enc k w0 blk off d w) (hz : sz = d.size) (hab : a + n ≤ b) (hb : b + n ≤ sz) (hsz : sz < 4611686018427387904) :
    Calls Try.prog 48 #[.slice (some ⟨blk, off, none⟩) sz cap, .int .i64 A, .int .i64 B, .int .i64 N, .func (.func g) #[] cb] w fun e w' => e = .returned (.tuple #[]) ∧ Hid (SWK enc k w0 blk off (swps d a b n) w') := by
  subst hA hB hN hz
  exact (swap_c enc k hk3 blk off cap a b n g cb d0 d w0 w R hs S hab hb hsz).mono fun _ _ h => ⟨h.1, h.2⟩
set_option maxHeartbeats 4000000 in
set_option maxRecDepth 1000000 in
theorem rot_c {α : Type} [Inhabited α] (enc : α → List Value) (k : Nat) (hk3 : k = 3) (blk off cap a m b g : Nat) (cb : Array Value) (d0 d : Array α) (w0 w : World) (R : RowK enc k w0 blk off d0) (hs : d0.size = d.size) (S : SWK enc k w0 blk off d w) (ham : a < m) (hmb : m < b) (hb : b ≤ d.size) (hsz : d.size < 4611686018427387904) :
    Calls Try.prog 47 #[.slice (some ⟨blk, off, none⟩) d.size cap, .int .i64 a, .int .i64 m, .int .i64 b, .func (.func g) #[] cb] w fun e w' => e = .returned (.tuple #[]) ∧ ∃ d', Rot d d' a m b ∧ SWK enc k w0 blk off d' w' := by
  have S0 : Hid (SWK enc k w0 blk off d w) := S
  clear S
  have mixed : Try.prog.follows .mixedOrders = true := by kernel_rfl
  have aE : ∀ w, (isAgg 44).run Try.prog w = .ok true w := fun _ => by kernel_rfl
  have zE : ∀ w, (Go.sizeOf 44).run Try.prog w = .ok k w := fun _ => by subst hk3; kernel_rfl
  have HK3 : Hid (k = 3) := hk3
  clear hk3
  have hwi : IntKind.i64.wrap ((m : Int) - (a : Int)) = (m : Int) - (a : Int) := by rw [IntKind.wrap_i64]; omega
  go_enter Try.func47, Try.ntmps47
  go_wp2_with fail
  go_loopg [10, 11] (b - a) (fun kx s10 s11 wr => ∃ (i j : Nat) (e : Array α), s10 = .int .i64 (i : Int) ∧ s11 = .int .i64 (j : Int) ∧ i + j ≤ kx ∧ RotI d e a m b i j ∧ Hid (SWK enc k w0 blk off e wr))
  case atStart => exact ⟨m - a, b - m, d, (by congr 1; omega), (by congr 1; omega), by omega, RotI.start ham hmb hb, S0⟩
  case round =>
    clear S0
    obtain ⟨i, j, e, rfl, rfl, hkx, RI, S1⟩ := hrel
    have i0 := RI.i0; have j0 := RI.j0; have i1 := RI.i1; have j1 := RI.j1
    have sz := RI.size
    have RIH := Lib.hid RI
    clear RI
    have SZ := Lib.hid sz
    clear sz
    rcases Nat.lt_trichotomy i j with hij | hij | hij
    · have hz : ¬ ((i : Int) = (j : Int)) := by omega
      have hz' : ((i : Int) == (j : Int)) = false := by simpa using hz
      have hg : ¬ (j : Int) < (i : Int) := by omega
      have e1 : Hid ((m : Int) - (i : Int) = ((m - i : Nat) : Int)) := by show (m : Int) - (i : Int) = ((m - i : Nat) : Int); omega
      have e2 : Hid ((m : Int) + (j : Int) - (i : Int) = ((m + j - i : Nat) : Int)) := by show (m : Int) + (j : Int) - (i : Int) = ((m + j - i : Nat) : Int); omega
      go_wp2_with (go_at_call 48; ((with_reducible refine (swap_c' enc k HK3.out blk off cap (m - i) (m + j - i) i g d.size _ _ _ e1.out e2.out rfl cb d0 e w0 wr R (by rw [SZ.out]; exact hs) S1.out SZ.out.symm (by omega) (by omega) hsz).mono ?_); rintro e' w' ⟨rfl, S2⟩))
      have S3 := S2
      clear S2
      go_wp2_with fail
      go_roundg (i + (j - i))
      case measure => omega
      case rel => exact ⟨i, j - i, _, rfl, (by congr 1; omega), Nat.le_refl _, RIH.out.lt hij, S3⟩
    · subst hij
      have e1 : Hid ((m : Int) - (i : Int) = ((m - i : Nat) : Int)) := by show (m : Int) - (i : Int) = ((m - i : Nat) : Int); omega
      go_wp2_with (go_at_call 48; ((with_reducible refine (swap_c' enc k HK3.out blk off cap (m - i) m i g d.size _ _ _ e1.out rfl rfl cb d0 e w0 wr R (by rw [SZ.out]; exact hs) S1.out SZ.out.symm (by omega) (by omega) hsz).mono ?_); rintro e' w' ⟨rfl, S2⟩))
      go_end0
      exact ⟨rfl, _, RIH.out.done, S2.out⟩
    · have hz : ¬ ((i : Int) = (j : Int)) := by omega
      have hz' : ((i : Int) == (j : Int)) = false := by simpa using hz
      have hg : (j : Int) < (i : Int) := by omega
      have e1 : Hid ((m : Int) - (i : Int) = ((m - i : Nat) : Int)) := by show (m : Int) - (i : Int) = ((m - i : Nat) : Int); omega
      go_wp2_with (go_at_call 48; ((with_reducible refine (swap_c' enc k HK3.out blk off cap (m - i) m j g d.size _ _ _ e1.out rfl rfl cb d0 e w0 wr R (by rw [SZ.out]; exact hs) S1.out SZ.out.symm (by omega) (by omega) hsz).mono ?_); rintro e' w' ⟨rfl, S2⟩))
      have S3 := S2
      clear S2
      go_wp2_with fail
      go_roundg (i - j + j)
      case measure => omega
      case rel => exact ⟨i - j, j, _, (by congr 1; omega), rfl, Nat.le_refl _, RIH.out.gt hij, S3⟩
end Go.Proofs.Ytinfjfjheimceaa.So
