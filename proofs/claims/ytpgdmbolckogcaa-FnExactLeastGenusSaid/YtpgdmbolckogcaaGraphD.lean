/-
  The walks of the program's and the model's CountRotations and FirstRotation.
-/
import Derived.Test.YtpgdmbolckogcaaBase
import Derived.Test.YtpgdmbolckogcaaSlice
import Derived.Test.YtpgdmbolckogcaaIntRow
import Derived.Test.YtpgdmbolckogcaaInts
import Derived.Test.YtpgdmbolckogcaaOwn
import Derived.Test.YtpgdmbolckogcaaGrid
import Derived.Test.YtpgdmbolckogcaaClass
import Derived.Test.YtpgdmbolckogcaaLab
import Derived.Test.YtpgdmbolckogcaaMap
import Derived.Test.YtpgdmbolckogcaaMapB
import Derived.Test.YtpgdmbolckogcaaPutBehind
import Derived.Test.YtpgdmbolckogcaaGraph
import Derived.Test.YtpgdmbolckogcaaGraphA
import Derived.Test.YtpgdmbolckogcaaGraphA2
import Derived.Test.YtpgdmbolckogcaaGraphRot
import Derived.Test.YtpgdmbolckogcaaGraphB
import Derived.Deep.QuietTactic
import Derived.BigQuiet
namespace Go.Proofs.Ytpgdmbolckogcaa
open Go.RowKit

namespace Gr
theorem fac_step {K : Nat} (h : 1 ≤ K) : fac (K - 1) * K = fac K := by
  obtain ⟨j, rfl⟩ : ∃ j, K = j + 1 := ⟨K - 1, by omega⟩
  rfl
theorem fac_le {K : Nat} (h : K ≤ 20) : fac K ≤ 2432902008176640000 := by rw [← fac_20]; exact fac_mono h
end Gr

set_option maxRecDepth 10000 in
set_option maxHeartbeats 1000000 in
theorem spec_l7Factorial (n : Int) (w : World) (h0 : -1 ≤ n) (h1 : n ≤ 20) :
    Calls Try.prog 43 #[.int .i64 n] w fun e w' => e = .returned (.int .i64 ((Gr.fac n.toNat : Nat) : Int)) ∧ w' = w := by
  obtain ⟨m, hm⟩ : ∃ m, n.toNat = m := ⟨_, rfl⟩
  rw [hm]
  have Hm := Lib.hid hm
  clear hm
  go_enter Try.func43, Try.ntmps43
  go_wp2
  go_loopw [3, 4] (fun ov kv wr => ∃ K : Nat, 2 ≤ K ∧ (K ≤ m + 1 ∨ K = 2) ∧ kv = .int .i64 K ∧ ov = .int .i64 ((Gr.fac (K - 1) : Nat) : Int) ∧ wr = w) (fun _ kv _ => 30 - (intOf kv).toNat)
  case atStart => exact ⟨2, Nat.le_refl _, Or.inr rfl, rfl, rfl, rfl⟩
  case round =>
    obtain ⟨K, hK2, hKm, rfl, rfl, rfl⟩ := hrel
    by_cases hlt : K ≤ m
    · have d1 : (K : Int) ≤ n := by have := Hm.out; omega
      have hK20 : K ≤ 20 := by have := Hm.out; omega
      have hst := Gr.fac_step (K := K) (by omega)
      have hle := Gr.fac_le hK20
      have hle0 := Gr.fac_le (K := K - 1) (by omega)
      have hmul : ((Gr.fac (K - 1) : Nat) : Int) * (K : Int) = ((Gr.fac K : Nat) : Int) := by rw [← hst]; exact (Int.natCast_mul _ _).symm
      have hwr : IntKind.i64.wrap (((Gr.fac (K - 1) : Nat) : Int) * (K : Int)) = ((Gr.fac K : Nat) : Int) := by rw [hmul]; exact wrap_small (by omega) (by omega)
      clear hst hmul
      generalize hf : Gr.fac (K - 1) = f0 at *
      generalize hg : Gr.fac K = f1 at *
      have Hg := Lib.hid hg
      clear hf hg
      go_wp2
      go_roundw
      case rel => exact ⟨K + 1, by omega, Or.inl (by omega), by go_num, by rw [Nat.add_sub_cancel, Hg.out], trivial⟩
      case measure => simp [intOf] <;> omega
    · have d1 : ¬ (K : Int) ≤ n := by have := Hm.out; omega
      have hf : Gr.fac (K - 1) = Gr.fac m := by
        rcases hKm with h | h
        · rw [show K - 1 = m by omega]
        · subst h
          rcases (by omega : m = 0 ∨ m = 1) with rfl | rfl <;> rfl
      rw [hf]
      clear hf hlt
      go_wp2
      go_ret
      exact ⟨rfl, rfl⟩

set_option maxRecDepth 10000 in
set_option maxHeartbeats 2000000 in
theorem spec_CountRotations (a : Option Addr) (c : Nat) (L : List (List Int)) (w : World) (ha : GridAt w a L) (hl : tot L ≤ 1048576) :
    Calls Try.prog 23 #[.slice a L.length c] w fun e w' => e = .returned (.int .i64 (Gr.rots L)) ∧ Below w.heap.size w w' := by
  have hI := spec_IsGraph a c L w ha hl
  by_cases hG : Gr.IsG L
  · rw [decide_eq_true hG] at hI
    rw [Gr.rots_yes hG]
    have hD := fun W (h : GridAt W a L) => spec_DegreesOf a c L W h hl
    rw [Gr.degs_yes hG] at hD
    have hl10 := hG.2.2
    have HI := Lib.hid hI; have HD := Lib.hid hD; have Ha := Lib.hid ha
    clear hI hD ha hG
    obtain ⟨u, hu⟩ : ∃ u, u = Gr.vx L := ⟨_, rfl⟩
    obtain ⟨n, hn⟩ : ∃ n, n = 2 * L.length := ⟨_, rfl⟩
    have hdeg : Gr.deg L = fun v => (Gr.at7 u n v).length := by funext v; unfold Gr.deg; rw [hu, hn]
    rw [← hu, ← hn]
    have Hdeg := Lib.hid hdeg
    have hn20 : n ≤ 20 := by omega
    clear hu hn hdeg
    have hmid := fun v (m : Nat) (h : m ≤ (Gr.at7 u n v).length) => Gr.rot_mid (u := u) (n := n) (v := v) (m := m) hn20 h
    have hd20 := fun v => Gr.at7_len u n v
    have Hmid := Lib.hid hmid; have Hd20 := Lib.hid hd20
    clear hmid hd20
    go_enter Try.func23, Try.ntmps23
    go_wp2_with fail
    refine HI.out.mono ?_
    rintro e w1 ⟨rfl, hb1⟩
    have Hb1 := Lib.hid hb1; clear hb1
    go_wp2_with fail
    refine (HD.out w1 (Ha.out.below Hb1.out)).mono ?_
    rintro e w2 hg
    obtain ⟨a2, c2, rfl, _, _, hf, hb2⟩ := hg
    rw [Cls.row_len]
    have hrow := hf.row
    have hb := Hb1.out.trans (hb2.mono Hb1.out.size)
    have Hrow := Lib.hid hrow; have Hb := Lib.hid hb
    clear hf hb2 hrow hb
    go_wp2
    go_loopw [3, 5] (fun ov vv wr => ∃ v : Nat, v ≤ 7 ∧ vv = .int .i64 v ∧ ov = .int .i64 ((Gr.rot u n v : Nat) : Int) ∧ wr = w2) (fun _ vv _ => 7 - (intOf vv).toNat)
    case atStart => exact ⟨0, by omega, rfl, rfl, rfl⟩
    case round =>
      obtain ⟨v, hv, rfl, rfl, rfl⟩ := hrel
      by_cases hlt : v < 7
      · obtain ⟨b, o, rfl, hbw, hcell⟩ := intCells_get? Hrow.out (Cls.row_get (c := Gr.deg L) hlt)
        rw [Hdeg.out] at hcell
        simp only at hcell
        have hm := Hmid.out v ((Gr.at7 u n v).length - 1) (by omega)
        have hm0 := Hmid.out v 0 (by omega)
        have hd := Hd20.out v
        have hst : Gr.rot u n (v + 1) = Gr.rot u n v * Gr.fac ((Gr.at7 u n v).length - 1) := rfl
        have hF := fun W => spec_l7Factorial (((Gr.at7 u n v).length : Int) - 1) W (by omega) (by omega)
        rw [show (((Gr.at7 u n v).length : Int) - 1).toNat = (Gr.at7 u n v).length - 1 by omega] at hF
        have hf20 := Gr.fac_le (K := (Gr.at7 u n v).length - 1) (by omega)
        have hmul : ((Gr.rot u n v : Nat) : Int) * ((Gr.fac ((Gr.at7 u n v).length - 1) : Nat) : Int) = ((Gr.rot u n (v + 1) : Nat) : Int) := by rw [hst]; exact (Int.natCast_mul _ _).symm
        have hwr : IntKind.i64.wrap (((Gr.rot u n v : Nat) : Int) * ((Gr.fac ((Gr.at7 u n v).length - 1) : Nat) : Int)) = ((Gr.rot u n (v + 1) : Nat) : Int) := by
          rw [hmul]; rw [← hst] at hm; exact wrap_small (by omega) (by omega)
        have h0 : (0 : Int) ≤ (v : Int) := by omega
        have h7 : (v : Int) < 7 := by omega
        have hwd : IntKind.i64.wrap (((Gr.at7 u n v).length : Int) - 1) = ((Gr.at7 u n v).length : Int) - 1 := wrap_small (by omega) (by omega)
        have HF := Lib.hid hF
        clear hm hm0 hst hF hmul hf20
        generalize Gr.fac ((Gr.at7 u n v).length - 1) = f1 at *
        generalize (Gr.at7 u n v).length = d at *
        go_wp2_with fail
        refine (HF.out _).mono ?_
        rintro e w3 ⟨rfl, hw⟩
        rw [hw]; clear hw
        go_wp2
        go_roundw
        case rel => exact ⟨v + 1, by omega, by go_num, rfl, trivial⟩
        case measure => simp [intOf] <;> omega
      · obtain rfl : v = 7 := by omega
        clear hlt
        go_wp2
        go_ret
        exact ⟨rfl, Hb.out⟩
  · rw [decide_eq_false hG] at hI
    rw [Gr.rots_no hG]
    have HI := Lib.hid hI
    clear hI hG ha
    go_enter Try.func23, Try.ntmps23
    go_wp2_with fail
    refine HI.out.mono ?_
    rintro e w1 ⟨rfl, hb1⟩
    go_wp2
    go_ret
    exact ⟨rfl, hb1⟩

set_option maxRecDepth 10000 in
set_option maxHeartbeats 2000000 in
theorem impl_CountRotations (a : Option Addr) (c : Nat) (L : List (List Int)) (w : World) (ha : GridAt w a L) (hl : tot L ≤ 1048576) :
    Calls Try.prog 24 #[.slice a L.length c] w fun e w' => e = .returned (.int .i64 (Gr.rots L)) ∧ Below w.heap.size w w' := by
  have hI := impl_IsGraph a c L w ha hl
  by_cases hG : Gr.IsG L
  · rw [decide_eq_true hG] at hI
    rw [Gr.rots_yes hG]
    have hD := fun W (h : GridAt W a L) => impl_DegreesOf a c L W h hl
    rw [Gr.degs_yes hG] at hD
    have hl10 := hG.2.2
    have HI := Lib.hid hI; have HD := Lib.hid hD; have Ha := Lib.hid ha
    clear hI hD ha hG
    obtain ⟨u, hu⟩ : ∃ u, u = Gr.vx L := ⟨_, rfl⟩
    obtain ⟨n, hn⟩ : ∃ n, n = 2 * L.length := ⟨_, rfl⟩
    have hdeg : Gr.deg L = fun v => (Gr.at7 u n v).length := by funext v; unfold Gr.deg; rw [hu, hn]
    rw [← hu, ← hn]
    have Hdeg := Lib.hid hdeg
    have hn20 : n ≤ 20 := by omega
    clear hu hn hdeg
    have hmid := fun v (m : Nat) (h : m ≤ (Gr.at7 u n v).length) => Gr.rot_mid (u := u) (n := n) (v := v) (m := m) hn20 h
    have hd20 := fun v => Gr.at7_len u n v
    have Hmid := Lib.hid hmid; have Hd20 := Lib.hid hd20
    clear hmid hd20
    go_enter Try.func24, Try.ntmps24
    go_wp2_with fail
    refine HI.out.mono ?_
    rintro e w1 ⟨rfl, hb1⟩
    have Hb1 := Lib.hid hb1; clear hb1
    go_wp2_with fail
    refine (HD.out w1 (Ha.out.below Hb1.out)).mono ?_
    rintro e w2 hg
    obtain ⟨a2, c2, rfl, _, _, hf, hb2⟩ := hg
    rw [Cls.row_len]
    have hrow := hf.row
    have hb := Hb1.out.trans (hb2.mono Hb1.out.size)
    have Hrow := Lib.hid hrow; have Hb := Lib.hid hb
    clear hf hb2 hrow hb
    go_wp2
    go_loopw [3, 5, 6, 13] (fun ov _ _ vv wr => ∃ v : Nat, v ≤ 7 ∧ vv = .int .i64 v ∧ ov = .int .i64 ((Gr.rot u n v : Nat) : Int) ∧ wr = w2) (fun _ _ _ vv _ => 7 - (intOf vv).toNat)
    case atStart => exact ⟨0, by omega, rfl, rfl, rfl⟩
    case round =>
      obtain ⟨v, hv, rfl, rfl, rfl⟩ := hrel
      by_cases hlt : v < 7
      · obtain ⟨b, o, rfl, hbw, hcell⟩ := intCells_get? Hrow.out (Cls.row_get (c := Gr.deg L) hlt)
        rw [Hdeg.out] at hcell
        simp only at hcell
        have hd := Hd20.out v
        have hmv := fun (m : Nat) (h : m ≤ (Gr.at7 u n v).length) => Hmid.out v m h
        have hst : Gr.rot u n (v + 1) = Gr.rot u n v * Gr.fac ((Gr.at7 u n v).length - 1) := rfl
        have h0 : (0 : Int) ≤ (v : Int) := by omega
        have h7 : (v : Int) < 7 := by omega
        have Hst := Lib.hid hst; have Hmv := Lib.hid hmv
        have hone : Gr.rot u n v * Gr.fac 1 = Gr.rot u n v := by show Gr.rot u n v * 1 = _; exact Nat.mul_one _
        have Hone := Lib.hid hone
        clear hst hmv hone
        generalize (Gr.at7 u n v).length = d at *
        generalize hR : Gr.rot u n v = R at *
        clear hR
        go_wp2
        go_loopw [3, 6] (fun ov kv w9 => ∃ K : Nat, 2 ≤ K ∧ (K ≤ d ∨ K = 2) ∧ kv = .int .i64 K ∧ ov = .int .i64 ((R * Gr.fac (K - 1) : Nat) : Int) ∧ w9 = wr) (fun _ kv _ => 30 - (intOf kv).toNat)
        case atStart => exact ⟨2, Nat.le_refl _, Or.inr rfl, rfl, by rw [show 2 - 1 = 1 from rfl, Hone.out], rfl⟩
        case round =>
          obtain ⟨K, hK2, hKm, rfl, rfl, hw⟩ := hrel
          subst hw
          by_cases hlt2 : K < d
          · have d1 : (K : Int) < (d : Int) := by omega
            have hstK : R * Gr.fac (K - 1) * K = R * Gr.fac K := by rw [Nat.mul_assoc, Gr.fac_step (by omega)]
            have hle := Hmv.out K (by omega)
            have hmul : ((R * Gr.fac (K - 1) : Nat) : Int) * (K : Int) = ((R * Gr.fac K : Nat) : Int) := by rw [← hstK]; exact (Int.natCast_mul _ _).symm
            have hwr : IntKind.i64.wrap (((R * Gr.fac (K - 1) : Nat) : Int) * (K : Int)) = ((R * Gr.fac K : Nat) : Int) := by rw [hmul]; exact wrap_small (by omega) (by omega)
            clear hstK hmul hle
            generalize hf : R * Gr.fac (K - 1) = f0 at *
            generalize hg : R * Gr.fac K = f1 at *
            have Hg := Lib.hid hg
            have hK20 : (K : Int) ≤ 20 := by omega
            clear hf hg
            go_wp2
            go_roundw
            case rel => exact ⟨K + 1, by omega, Or.inl (by omega), by go_num, by rw [Nat.add_sub_cancel, Hg.out], trivial⟩
            case measure => simp [intOf] <;> omega
          · have d1 : ¬ (K : Int) < (d : Int) := by omega
            have hf : Gr.fac (K - 1) = Gr.fac (d - 1) := by
              rcases hKm with h | h
              · rw [show K = d by omega]
              · subst h
                rcases (by omega : d = 0 ∨ d = 1 ∨ d = 2) with rfl | rfl | rfl <;> rfl
            have hz := Hst.out
            rw [hf]
            clear hf hlt2
            generalize R * Gr.fac (d - 1) = z at *
            have Hz := Lib.hid hz
            clear hz
            go_wp2
            go_roundw
            case rel => exact ⟨v + 1, by omega, by go_num, by rw [Hz.out], trivial⟩
            case measure => simp [intOf] <;> omega
      · obtain rfl : v = 7 := by omega
        clear hlt
        go_wp2
        go_ret
        exact ⟨rfl, Hb.out⟩
  · rw [decide_eq_false hG] at hI
    rw [Gr.rots_no hG]
    have HI := Lib.hid hI
    clear hI hG ha
    go_enter Try.func24, Try.ntmps24
    go_wp2_with fail
    refine HI.out.mono ?_
    rintro e w1 ⟨rfl, hb1⟩
    go_wp2
    go_ret
    exact ⟨rfl, hb1⟩
end Go.Proofs.Ytpgdmbolckogcaa
