/-
  The walks of the program's twistProduct, haveEqualTwists, BraidHolds and CommuteHolds.
-/
import Derived.Test.YtamgimdjnmcpaaaDoorBase
import Derived.Test.YtamgimdjnmcpaaaDoorSlice
import Derived.Test.YtamgimdjnmcpaaaDoorIntRow
import Derived.Test.YtamgimdjnmcpaaaDoorInts
import Derived.Test.YtamgimdjnmcpaaaDoorOwn
import Derived.Test.YtamgimdjnmcpaaaDoorGrid
import Derived.Test.YtamgimdjnmcpaaaDoorGridRows
import Derived.Test.YtamgimdjnmcpaaaDoorGivesRows
import Derived.Test.YtamgimdjnmcpaaaDoorConcat
import Derived.Test.YtamgimdjnmcpaaaDoorTw
import Derived.Test.YtamgimdjnmcpaaaDoorTwErr
import Derived.Test.YtamgimdjnmcpaaaDoorTwA
import Derived.Test.YtamgimdjnmcpaaaDoorTwB
import Derived.Test.YtamgimdjnmcpaaaDoorTwC
import Derived.Test.YtamgimdjnmcpaaaDoorTwD
import Derived.Test.YtamgimdjnmcpaaaDoorTwE
import Derived.Deep.QuietTactic
import Derived.Deep.RegionHeld3
import Derived.BigQuiet
namespace Go.Proofs.YtamgimdjnmcpaaaDoor
open Go.RowKit

namespace Tw
def Few (T : List (List Int)) : Prop := T.length ≤ 6 ∧ ∀ r ∈ T, r.length ≤ 6
theorem Few.of {T : List (List Int)} (h : IsT T) : Few T := ⟨h.1.2, fun r hr => by rw [(h.2 r hr).1]; exact h.1.2⟩
theorem Few.nil : Few [] := ⟨by simp, fun _ h => by cases h⟩
theorem mat_few (g : Int) (c : List Int) : Few (mat g c) := by
  by_cases h : MatOk g c
  · exact Few.of h.isT.1
  · rw [mat_none h]; exact Few.nil
theorem times_few (s t : List (List Int)) : Few (times s t) := by
  by_cases h : TimesOk s t
  · exact Few.of h.isT.1
  · rw [times_none h]; exact Few.nil
theorem Few.rows {T : List (List Int)} (h : Few T) : T.length ≤ 1048576 ∧ ∀ r ∈ T, r.length ≤ 1048576 := ⟨Nat.le_trans h.1 (by decide), fun r hr => Nat.le_trans (h.2 r hr) (by decide)⟩
end Tw
set_option maxRecDepth 10000 in
set_option maxHeartbeats 2000000 in
theorem impl_twistProduct2 (g : Int) (b : Nat) (ac : Option Addr) (kc : Nat) (c : List Int) (ad : Option Addr) (kd : Nat) (d : List Int) (w : World) (hE : Errs w) (hc : w.cell? ⟨b, 0, none⟩ = some (.slice ac c.length kc)) (rc : RowAt w ac (intCells c)) (lc : c.length ≤ 1048576) (hd : w.cell? ⟨b, 1, none⟩ = some (.slice ad d.length kd)) (rd : RowAt w ad (intCells d)) (ld : d.length ≤ 1048576) :
    Calls Tryd.prog 79 #[.int .i64 g, .slice (some ⟨b, 0, none⟩) 2 2] w fun e w' => GivesRows2 w (Tw.times (Tw.mat g c) (Tw.mat g d)) (decide (Tw.TimesOk (Tw.mat g c) (Tw.mat g d))) e w' := by
  have hbc := World.block_lt_of_cell? w _ hc
  have Kc := Lib.hid (fun W (hb : Below w.heap.size w W) => show W.cell? ⟨b, 0, none⟩ = some (.slice ac c.length kc) from by rw [hb.cell hbc]; exact hc)
  have Mc := Lib.hid (fun W (hb : Below w.heap.size w W) => impl_TwistMatrix g ac kc c W (hE.keeps hb) (rc.below hb) lc)
  have Fc := Lib.hid (Tw.mat_few g c)
  have hbd := World.block_lt_of_cell? w _ hd
  have Kd := Lib.hid (fun W (hb : Below w.heap.size w W) => show W.cell? ⟨b, 1, none⟩ = some (.slice ad d.length kd) from by rw [hb.cell hbd]; exact hd)
  have Md := Lib.hid (fun W (hb : Below w.heap.size w W) => impl_TwistMatrix g ad kd d W (hE.keeps hb) (rd.below hb) ld)
  have Fd := Lib.hid (Tw.mat_few g d)
  have T1 := Lib.hid (fun W (hb : Below w.heap.size w W) (ra : Option Addr) (rc : Nat) (sa : Option Addr) (sc : Nat) (h1 : GridAt W ra (Tw.mat g c)) (h2 : GridAt W sa (Tw.mat g d)) => impl_TimesTable ra rc (Tw.mat g c) sa sc (Tw.mat g d) W (hE.keeps hb) h1 Fc.out.rows.1 Fc.out.rows.2 h2 Fd.out.rows.1 Fd.out.rows.2)
  generalize hR : Tw.times (Tw.mat g c) (Tw.mat g d) = R at *
  generalize decide (Tw.TimesOk (Tw.mat g c) (Tw.mat g d)) = okk at *
  clear hR hE rc lc hbc hc rd ld hbd hd
  generalize Tw.mat g c = Ac at *
  generalize Tw.mat g d = Ad at *
  generalize decide (Tw.MatOk g c) = okc at *
  generalize decide (Tw.MatOk g d) = okd at *
  have k0 := Kc.out w (Below.refl _ _)
  go_enter Tryd.func79, Tryd.ntmps79
  go_wp2_with fail
  refine (Mc.out w (Below.refl _ _)).mono ?_
  rintro e w1 ⟨ra, rc, rfl, _, _, hg1, hb1⟩
  have Hg := Lib.hid hg1.grid; have Hb := Lib.hid hb1; clear hg1
  have k1 := Kd.out w1 hb1; clear k0 hb1
  go_wp2
  refine wp_loop_rounds 2 ?_
  rw [rounds_succ]
  go_wp2_with fail
  refine (Md.out w1 Hb.out).mono ?_
  rintro e w2 ⟨sa, sc, rfl, _, _, hg2, hb2⟩
  have Hg2 := Lib.hid hg2.grid; have Hg1 := Lib.hid (Hg.out.below hb2); have Hb2 := Lib.hid (Hb.out.trans (hb2.mono Hb.out.size)); clear hg2 hb2 k1
  go_wp2_with fail
  refine (T1.out w2 Hb2.out ra rc sa sc Hg1.out Hg2.out).mono ?_
  rintro e w3 ⟨ta, tc, rfl, h1, h2, hg3, hb3⟩
  have Hg3 := Lib.hid (hg3.mono Hb2.out.size (Nat.le_refl _)); have Hb3 := Lib.hid (Hb2.out.trans (hb3.mono Hb2.out.size)); have H1 := Lib.hid h1; clear hg3 hb3 h1
  go_wp2
  rw [rounds_succ]
  go_wp2
  go_ret2
  exact ⟨_, _, rfl, H1.out, h2, Hg3.out, Hb3.out⟩
set_option maxRecDepth 10000 in
set_option maxHeartbeats 2000000 in
theorem impl_twistProduct3 (g : Int) (b : Nat) (ac : Option Addr) (kc : Nat) (c : List Int) (ad : Option Addr) (kd : Nat) (d : List Int) (af : Option Addr) (kf : Nat) (f : List Int) (w : World) (hE : Errs w) (hc : w.cell? ⟨b, 0, none⟩ = some (.slice ac c.length kc)) (rc : RowAt w ac (intCells c)) (lc : c.length ≤ 1048576) (hd : w.cell? ⟨b, 1, none⟩ = some (.slice ad d.length kd)) (rd : RowAt w ad (intCells d)) (ld : d.length ≤ 1048576) (hf : w.cell? ⟨b, 2, none⟩ = some (.slice af f.length kf)) (rf : RowAt w af (intCells f)) (lf : f.length ≤ 1048576) :
    Calls Tryd.prog 79 #[.int .i64 g, .slice (some ⟨b, 0, none⟩) 3 3] w fun e w' => GivesRows2 w (Tw.times (Tw.times (Tw.mat g c) (Tw.mat g d)) (Tw.mat g f)) (decide (Tw.TimesOk (Tw.times (Tw.mat g c) (Tw.mat g d)) (Tw.mat g f))) e w' := by
  have hbc := World.block_lt_of_cell? w _ hc
  have Kc := Lib.hid (fun W (hb : Below w.heap.size w W) => show W.cell? ⟨b, 0, none⟩ = some (.slice ac c.length kc) from by rw [hb.cell hbc]; exact hc)
  have Mc := Lib.hid (fun W (hb : Below w.heap.size w W) => impl_TwistMatrix g ac kc c W (hE.keeps hb) (rc.below hb) lc)
  have Fc := Lib.hid (Tw.mat_few g c)
  have hbd := World.block_lt_of_cell? w _ hd
  have Kd := Lib.hid (fun W (hb : Below w.heap.size w W) => show W.cell? ⟨b, 1, none⟩ = some (.slice ad d.length kd) from by rw [hb.cell hbd]; exact hd)
  have Md := Lib.hid (fun W (hb : Below w.heap.size w W) => impl_TwistMatrix g ad kd d W (hE.keeps hb) (rd.below hb) ld)
  have Fd := Lib.hid (Tw.mat_few g d)
  have hbf := World.block_lt_of_cell? w _ hf
  have Kf := Lib.hid (fun W (hb : Below w.heap.size w W) => show W.cell? ⟨b, 2, none⟩ = some (.slice af f.length kf) from by rw [hb.cell hbf]; exact hf)
  have Mf := Lib.hid (fun W (hb : Below w.heap.size w W) => impl_TwistMatrix g af kf f W (hE.keeps hb) (rf.below hb) lf)
  have Ff := Lib.hid (Tw.mat_few g f)
  have T1 := Lib.hid (fun W (hb : Below w.heap.size w W) (ra : Option Addr) (rc : Nat) (sa : Option Addr) (sc : Nat) (h1 : GridAt W ra (Tw.mat g c)) (h2 : GridAt W sa (Tw.mat g d)) => impl_TimesTable ra rc (Tw.mat g c) sa sc (Tw.mat g d) W (hE.keeps hb) h1 Fc.out.rows.1 Fc.out.rows.2 h2 Fd.out.rows.1 Fd.out.rows.2)
  have F2 := Lib.hid (Tw.times_few (Tw.mat g c) (Tw.mat g d))
  have T2 := Lib.hid (fun W (hb : Below w.heap.size w W) (ra : Option Addr) (rc : Nat) (sa : Option Addr) (sc : Nat) (h1 : GridAt W ra (Tw.times (Tw.mat g c) (Tw.mat g d))) (h2 : GridAt W sa (Tw.mat g f)) => impl_TimesTable ra rc (Tw.times (Tw.mat g c) (Tw.mat g d)) sa sc (Tw.mat g f) W (hE.keeps hb) h1 F2.out.rows.1 F2.out.rows.2 h2 Ff.out.rows.1 Ff.out.rows.2)
  generalize hR : Tw.times (Tw.times (Tw.mat g c) (Tw.mat g d)) (Tw.mat g f) = R at *
  generalize decide (Tw.TimesOk (Tw.times (Tw.mat g c) (Tw.mat g d)) (Tw.mat g f)) = okk at *
  clear hR hE rc lc hbc hc rd ld hbd hd rf lf hbf hf
  generalize Tw.times (Tw.mat g c) (Tw.mat g d) = Q at *
  generalize decide (Tw.TimesOk (Tw.mat g c) (Tw.mat g d)) = okq at *
  generalize Tw.mat g c = Ac at *
  generalize Tw.mat g d = Ad at *
  generalize Tw.mat g f = Af at *
  generalize decide (Tw.MatOk g c) = okc at *
  generalize decide (Tw.MatOk g d) = okd at *
  generalize decide (Tw.MatOk g f) = okf at *
  have k0 := Kc.out w (Below.refl _ _)
  go_enter Tryd.func79, Tryd.ntmps79
  go_wp2_with fail
  refine (Mc.out w (Below.refl _ _)).mono ?_
  rintro e w1 ⟨ra, rc, rfl, _, _, hg1, hb1⟩
  have Hg := Lib.hid hg1.grid; have Hb := Lib.hid hb1; clear hg1
  have k1 := Kd.out w1 hb1; clear k0 hb1
  go_wp2
  refine wp_loop_rounds 3 ?_
  rw [rounds_succ]
  go_wp2_with fail
  refine (Md.out w1 Hb.out).mono ?_
  rintro e w2 ⟨sa, sc, rfl, _, _, hg2, hb2⟩
  have Hg2 := Lib.hid hg2.grid; have Hg1 := Lib.hid (Hg.out.below hb2); have Hb2 := Lib.hid (Hb.out.trans (hb2.mono Hb.out.size)); clear hg2 hb2 k1
  go_wp2_with fail
  refine (T1.out w2 Hb2.out ra rc sa sc Hg1.out Hg2.out).mono ?_
  rintro e w3 ⟨ta, tc, rfl, _, _, hg3, hb3⟩
  have Hg3 := Lib.hid hg3.grid; have Hb3 := Lib.hid (Hb2.out.trans (hb3.mono Hb2.out.size)); clear hg3 hb3
  have k2 := Kf.out w3 Hb3.out
  go_wp2
  rw [rounds_succ]
  go_wp2_with fail
  refine (Mf.out w3 Hb3.out).mono ?_
  rintro e w4 ⟨ua, uc, rfl, _, _, hg4, hb4⟩
  have Hg4 := Lib.hid hg4.grid; have Hg3b := Lib.hid (Hg3.out.below hb4); have Hb4 := Lib.hid (Hb3.out.trans (hb4.mono Hb3.out.size)); clear hg4 hb4 k2
  go_wp2_with fail
  refine (T2.out w4 Hb4.out ta tc ua uc Hg3b.out Hg4.out).mono ?_
  rintro e w5 ⟨va, vc, rfl, h1, h2, hg3, hb3⟩
  have Hg5 := Lib.hid (hg3.mono Hb4.out.size (Nat.le_refl _)); have Hb5 := Lib.hid (Hb4.out.trans (hb3.mono Hb4.out.size)); have H1 := Lib.hid h1; clear hg3 hb3 h1
  go_wp2
  rw [rounds_succ]
  go_wp2
  go_ret2
  exact ⟨_, _, rfl, H1.out, h2, Hg5.out, Hb5.out⟩
set_option maxRecDepth 10000 in
set_option maxHeartbeats 1000000 in
theorem lib_EqualFunc (a a' : Option Addr) (c c' : Nat) (L L' : List (List Int)) (w : World) (ha : GridAt w a L) (ha' : GridAt w a' L') (h1 : Tw.Few L) (h2 : Tw.Few L') :
    Calls Tryd.prog 80 #[.slice a L.length c, .slice a' L'.length c', .func (.func 81) #[] #[]] w fun e w' => e = .returned (.bool (decide (L = L'))) ∧ Below w.heap.size w w' := by
  have l6 := h1.1; have l6' := h2.1
  by_cases hll : L.length = L'.length
  · have t0 : ((L.length : Int) != (L'.length : Int)) = false := by simp [hll]
    have Ha := Lib.hid ha; have Ha' := Lib.hid ha'; have H1 := Lib.hid h1.2; have H2 := Lib.hid h2.2; have Hll := Lib.hid hll
    clear ha ha' h1 h2 hll
    go_enter Tryd.func80, Tryd.ntmps80
    go_wp2
    go_loopw [6, 7, 8, 9, 17] (fun rv _ _ _ iv wr => rv = .bool false ∧ ∃ i : Nat, i ≤ L.length ∧ iv = .int .i64 i ∧ Hid (∀ j, j < i → L[j]? = L'[j]?) ∧ Hid (Below w.heap.size w wr)) (fun _ _ _ _ iv _ => L.length - (intOf iv).toNat)
    case atStart => exact ⟨rfl, 0, by omega, rfl, Lib.hid (fun j h => by omega), Lib.hid (Below.refl _ _)⟩
    case round =>
      obtain ⟨rfl, i, hi, rfl, hall, hb⟩ := hrel
      by_cases hlt : i < L.length
      · obtain ⟨r, hr⟩ := get_some hlt
        obtain ⟨r', hr'⟩ := get_some (show i < L'.length by rw [← Hll.out]; exact hlt)
        obtain ⟨b1, o1, a1, c1, e1, _, hc1, hr1⟩ := (Ha.out.below hb.out).get hr
        obtain ⟨b2, o2, a2, c2, e2, _, hc2, hr2⟩ := (Ha'.out.below hb.out).get hr'
        subst e1; subst e2
        have hE := slices_Equal a1 a2 c1 c2 r r' wr hr1 hr2 (Nat.le_trans (H1.out r (get_mem hr)) (by decide)) (Nat.le_trans (H2.out r' (get_mem hr')) (by decide))
        have Hr := Lib.hid hr; have Hr' := Lib.hid hr'
        have i0 : (0 : Int) ≤ (i : Int) := by omega
        have i1 : (i : Int) < (L.length : Int) := by omega
        have i2 : (i : Int) < (L'.length : Int) := by have := Hll.out; omega
        clear hr hr' hr1 hr2
        by_cases he : r = r'
        · rw [decide_eq_true he] at hE
          have HE := Lib.hid hE; have He := Lib.hid he
          clear hE he
          go_wp2_with fail
          refine HE.out.mono ?_
          rintro e w5 ⟨rfl, hb5⟩
          have Hb5 := Lib.hid (hb.out.trans (hb5.mono hb.out.size)); clear hb5
          go_wp2
          go_roundw
          case rel => exact ⟨rfl, i + 1, by omega, by go_num, Lib.hid (fun j h => by
            rcases Nat.lt_or_ge j i with h' | h'
            · exact hall.out j h'
            · obtain rfl : j = i := by omega
              rw [Hr.out, Hr'.out, He.out]), Hb5⟩
          case measure => simp [intOf]; omega
        · rw [decide_eq_false he] at hE
          have HE := Lib.hid hE
          have Hno := Lib.hid (show decide (L = L') = false from decide_eq_false (by
            rintro rfl
            rw [Hr.out] at Hr'
            exact he (Option.some.inj Hr'.out)))
          clear hE he
          go_wp2_with fail
          refine HE.out.mono ?_
          rintro e w5 ⟨rfl, hb5⟩
          have Hb5 := Lib.hid (hb.out.trans (hb5.mono hb.out.size)); clear hb5
          go_wp2
          go_ret
          exact ⟨by rw [Hno.out]; rfl, Hb5.out⟩
      · obtain rfl : i = L.length := by omega
        have Hd := Lib.hid (show decide (L = L') = true from decide_eq_true (List.ext_getElem? (fun j => by
          rcases Nat.lt_or_ge j L.length with h | h
          · exact hall.out j h
          · rw [List.getElem?_eq_none h, List.getElem?_eq_none (by rw [← Hll.out]; exact h)])))
        go_wp2
        go_ret
        exact ⟨by rw [Hd.out]; rfl, hb.out⟩
  · have t0 : ((L.length : Int) != (L'.length : Int)) = true := by simp; omega
    have Hd := Lib.hid (show decide (L = L') = false from decide_eq_false (fun e => hll (by rw [e])))
    clear ha ha' h1 h2 hll
    go_enter Tryd.func80, Tryd.ntmps80
    go_wp2
    go_ret
    exact ⟨by rw [Hd.out]; rfl, Below.refl _ _⟩
set_option maxRecDepth 10000 in
set_option maxHeartbeats 1000000 in
theorem impl_haveEqualTwists (g : Int) (b1 b2 m : Nat) (L1 L2 : List (List Int)) (k1 k2 : Bool) (w : World) (f1 : Tw.Few L1) (f2 : Tw.Few L2)
    (h1 : ∀ W, Below w.heap.size w W → Calls Tryd.prog 79 #[.int .i64 g, .slice (some ⟨b1, 0, none⟩) m m] W fun e w' => GivesRows2 W L1 k1 e w')
    (h2 : ∀ W, Below w.heap.size w W → Calls Tryd.prog 79 #[.int .i64 g, .slice (some ⟨b2, 0, none⟩) m m] W fun e w' => GivesRows2 W L2 k2 e w') :
    Calls Tryd.prog 70 #[.int .i64 g, .slice (some ⟨b1, 0, none⟩) m m, .slice (some ⟨b2, 0, none⟩) m m] w fun e w' => e = .returned (.bool (k1 && (k2 && decide (L1 = L2)))) ∧ Below w.heap.size w w' := by
  have H1 := Lib.hid h1; have H2 := Lib.hid h2; have F1 := Lib.hid f1; have F2 := Lib.hid f2
  have HQ := Lib.hid (fun (ra sa : Option Addr) (rc sc : Nat) (W : World) (k1 : GridAt W ra L1) (k2 : GridAt W sa L2) => lib_EqualFunc ra sa rc sc L1 L2 W k1 k2 f1 f2)
  generalize decide (L1 = L2) = q at *
  clear h1 h2 f1 f2
  go_enter Tryd.func70, Tryd.ntmps70
  go_wp2_with fail
  refine (H1.out w (Below.refl _ _)).mono ?_
  rintro e w1 ⟨ra, rc, rfl, _, _, hg1, hb1⟩
  have Hg1 := Lib.hid hg1.grid; have Hb1 := Lib.hid hb1; clear hg1 hb1
  go_wp2_with fail
  refine (H2.out w1 Hb1.out).mono ?_
  rintro e w2 ⟨sa, sc, rfl, _, _, hg2, hb2⟩
  have Hg2 := Lib.hid hg2.grid; have Hg1' := Lib.hid (Hg1.out.below hb2); have Hb2 := Lib.hid (Hb1.out.trans (hb2.mono Hb1.out.size)); clear hg2 hb2
  have HE := Lib.hid (HQ.out ra sa rc sc w2 Hg1'.out Hg2.out)
  cases k1 with
  | false =>
    go_wp2
    go_ret
    exact ⟨rfl, Hb2.out⟩
  | true =>
    cases k2 with
    | false =>
      go_wp2
      go_ret
      exact ⟨rfl, Hb2.out⟩
    | true =>
      go_wp2_with fail
      refine HE.out.mono ?_
      rintro e w3 ⟨rfl, hb3⟩
      have Hb3 := Lib.hid (Hb2.out.trans (hb3.mono Hb2.out.size)); clear hb3
      go_wp2
      go_ret
      exact ⟨by simp, Hb3.out⟩
theorem Tw.braid_dec (g : Int) (c d : List Int) : decide (Tw.Braid g c d) = (decide (Tw.TimesOk (Tw.times (Tw.mat g c) (Tw.mat g d)) (Tw.mat g c)) && (decide (Tw.TimesOk (Tw.times (Tw.mat g d) (Tw.mat g c)) (Tw.mat g d)) && decide (Tw.times (Tw.times (Tw.mat g c) (Tw.mat g d)) (Tw.mat g c) = Tw.times (Tw.times (Tw.mat g d) (Tw.mat g c)) (Tw.mat g d)))) := by
  rw [Bool.eq_iff_iff]
  simp only [Bool.and_eq_true, decide_eq_true_iff]
  exact ⟨fun h => ⟨h.1.1, h.1.2, h.2⟩, fun h => ⟨⟨h.1, h.2.1⟩, h.2.2⟩⟩
theorem Tw.comm_dec (g : Int) (c d : List Int) : decide (Tw.Comm g c d) = (decide (Tw.TimesOk (Tw.mat g c) (Tw.mat g d)) && (decide (Tw.TimesOk (Tw.mat g d) (Tw.mat g c)) && decide (Tw.times (Tw.mat g c) (Tw.mat g d) = Tw.times (Tw.mat g d) (Tw.mat g c)))) := by
  rw [Bool.eq_iff_iff]
  simp only [Bool.and_eq_true, decide_eq_true_iff]
  exact ⟨fun h => ⟨h.1.1, h.1.2, h.2⟩, fun h => ⟨⟨h.1, h.2.1⟩, h.2.2⟩⟩
set_option maxRecDepth 10000 in
set_option maxHeartbeats 1000000 in
theorem impl_BraidHolds (g : Int) (ac : Option Addr) (kc : Nat) (c : List Int) (ad : Option Addr) (kd : Nat) (d : List Int) (w : World) (hE : Errs w) (rc : RowAt w ac (intCells c)) (lc : c.length ≤ 1048576) (rd : RowAt w ad (intCells d)) (ld : d.length ≤ 1048576) :
    Calls Tryd.prog 36 #[.int .i64 g, .slice ac c.length kc, .slice ad d.length kd] w fun e w' => e = .returned (.bool (decide (Tw.Braid g c d))) ∧ Below w.heap.size w w' := by
  have hbW : Below w.heap.size w ((w.alloc (.cells #[.slice ac c.length kc, .slice ad d.length kd, .slice ac c.length kc] 24)).alloc (.cells #[.slice ad d.length kd, .slice ac c.length kc, .slice ad d.length kd] 24)) := ((Below.refl _ _).alloc (Nat.le_refl _) _).alloc (by simp) _
  have K1 : Blk ((w.alloc (.cells #[.slice ac c.length kc, .slice ad d.length kd, .slice ac c.length kc] 24)).alloc (.cells #[.slice ad d.length kd, .slice ac c.length kc, .slice ad d.length kd] 24)) w.heap.size 24 #[.slice ac c.length kc, .slice ad d.length kd, .slice ac c.length kc] := (Blk.new w _ _).alloc _
  have K2 : Blk ((w.alloc (.cells #[.slice ac c.length kc, .slice ad d.length kd, .slice ac c.length kc] 24)).alloc (.cells #[.slice ad d.length kd, .slice ac c.length kc, .slice ad d.length kd] 24)) (w.heap.size + 1) 24 #[.slice ad d.length kd, .slice ac c.length kc, .slice ad d.length kd] := by
    have := Blk.new (w.alloc (.cells #[.slice ac c.length kc, .slice ad d.length kd, .slice ac c.length kc] 24)) 24 #[.slice ad d.length kd, .slice ac c.length kc, .slice ad d.length kd]
    rwa [show (w.alloc (.cells #[.slice ac c.length kc, .slice ad d.length kd, .slice ac c.length kc] 24)).heap.size = w.heap.size + 1 by simp] at this
  obtain ⟨W0, hW0⟩ : ∃ W, (w.alloc (.cells #[.slice ac c.length kc, .slice ad d.length kd, .slice ac c.length kc] 24)).alloc (.cells #[.slice ad d.length kd, .slice ac c.length kc, .slice ad d.length kd] 24) = W := ⟨_, rfl⟩
  rw [hW0] at hbW K1 K2
  have hq := impl_haveEqualTwists g w.heap.size (w.heap.size + 1) 3 (Tw.times (Tw.times (Tw.mat g c) (Tw.mat g d)) (Tw.mat g c)) (Tw.times (Tw.times (Tw.mat g d) (Tw.mat g c)) (Tw.mat g d)) (decide (Tw.TimesOk (Tw.times (Tw.mat g c) (Tw.mat g d)) (Tw.mat g c))) (decide (Tw.TimesOk (Tw.times (Tw.mat g d) (Tw.mat g c)) (Tw.mat g d))) W0 (Tw.times_few _ _) (Tw.times_few _ _)
    (fun W hb => impl_twistProduct3 g w.heap.size ac kc c ad kd d ac kc c W (hE.keeps (hbW.trans (hb.mono hbW.size))) ((K1.below hb K1.lt).cell 0) (rc.below (hbW.trans (hb.mono hbW.size))) lc ((K1.below hb K1.lt).cell 1) (rd.below (hbW.trans (hb.mono hbW.size))) ld ((K1.below hb K1.lt).cell 2) (rc.below (hbW.trans (hb.mono hbW.size))) lc)
    (fun W hb => impl_twistProduct3 g (w.heap.size + 1) ad kd d ac kc c ad kd d W (hE.keeps (hbW.trans (hb.mono hbW.size))) ((K2.below hb K2.lt).cell 0) (rd.below (hbW.trans (hb.mono hbW.size))) ld ((K2.below hb K2.lt).cell 1) (rc.below (hbW.trans (hb.mono hbW.size))) lc ((K2.below hb K2.lt).cell 2) (rd.below (hbW.trans (hb.mono hbW.size))) ld)
  rw [← Tw.braid_dec] at hq
  generalize decide (Tw.Braid g c d) = v at *
  have HQ := Lib.hid hq; have HW := Lib.hid hW0; have HbW := Lib.hid hbW
  clear hq hW0 hbW K1 K2 hE rc rd
  go_enter Tryd.func36, Tryd.ntmps36
  go_wp2_with fail
  rw [HW.out]
  refine HQ.out.mono ?_
  rintro e w1 ⟨rfl, hb1⟩
  have Hb1 := Lib.hid hb1; clear hb1
  go_wp2
  go_ret
  exact ⟨rfl, HbW.out.trans (Hb1.out.mono HbW.out.size)⟩
set_option maxRecDepth 10000 in
set_option maxHeartbeats 1000000 in
theorem impl_CommuteHolds (g : Int) (ac : Option Addr) (kc : Nat) (c : List Int) (ad : Option Addr) (kd : Nat) (d : List Int) (w : World) (hE : Errs w) (rc : RowAt w ac (intCells c)) (lc : c.length ≤ 1048576) (rd : RowAt w ad (intCells d)) (ld : d.length ≤ 1048576) :
    Calls Tryd.prog 38 #[.int .i64 g, .slice ac c.length kc, .slice ad d.length kd] w fun e w' => e = .returned (.bool (decide (Tw.Comm g c d))) ∧ Below w.heap.size w w' := by
  have hbW : Below w.heap.size w ((w.alloc (.cells #[.slice ac c.length kc, .slice ad d.length kd] 24)).alloc (.cells #[.slice ad d.length kd, .slice ac c.length kc] 24)) := ((Below.refl _ _).alloc (Nat.le_refl _) _).alloc (by simp) _
  have K1 : Blk ((w.alloc (.cells #[.slice ac c.length kc, .slice ad d.length kd] 24)).alloc (.cells #[.slice ad d.length kd, .slice ac c.length kc] 24)) w.heap.size 24 #[.slice ac c.length kc, .slice ad d.length kd] := (Blk.new w _ _).alloc _
  have K2 : Blk ((w.alloc (.cells #[.slice ac c.length kc, .slice ad d.length kd] 24)).alloc (.cells #[.slice ad d.length kd, .slice ac c.length kc] 24)) (w.heap.size + 1) 24 #[.slice ad d.length kd, .slice ac c.length kc] := by
    have := Blk.new (w.alloc (.cells #[.slice ac c.length kc, .slice ad d.length kd] 24)) 24 #[.slice ad d.length kd, .slice ac c.length kc]
    rwa [show (w.alloc (.cells #[.slice ac c.length kc, .slice ad d.length kd] 24)).heap.size = w.heap.size + 1 by simp] at this
  obtain ⟨W0, hW0⟩ : ∃ W, (w.alloc (.cells #[.slice ac c.length kc, .slice ad d.length kd] 24)).alloc (.cells #[.slice ad d.length kd, .slice ac c.length kc] 24) = W := ⟨_, rfl⟩
  rw [hW0] at hbW K1 K2
  have hq := impl_haveEqualTwists g w.heap.size (w.heap.size + 1) 2 (Tw.times (Tw.mat g c) (Tw.mat g d)) (Tw.times (Tw.mat g d) (Tw.mat g c)) (decide (Tw.TimesOk (Tw.mat g c) (Tw.mat g d))) (decide (Tw.TimesOk (Tw.mat g d) (Tw.mat g c))) W0 (Tw.times_few _ _) (Tw.times_few _ _)
    (fun W hb => impl_twistProduct2 g w.heap.size ac kc c ad kd d W (hE.keeps (hbW.trans (hb.mono hbW.size))) ((K1.below hb K1.lt).cell 0) (rc.below (hbW.trans (hb.mono hbW.size))) lc ((K1.below hb K1.lt).cell 1) (rd.below (hbW.trans (hb.mono hbW.size))) ld)
    (fun W hb => impl_twistProduct2 g (w.heap.size + 1) ad kd d ac kc c W (hE.keeps (hbW.trans (hb.mono hbW.size))) ((K2.below hb K2.lt).cell 0) (rd.below (hbW.trans (hb.mono hbW.size))) ld ((K2.below hb K2.lt).cell 1) (rc.below (hbW.trans (hb.mono hbW.size))) lc)
  rw [← Tw.comm_dec] at hq
  generalize decide (Tw.Comm g c d) = v at *
  have HQ := Lib.hid hq; have HW := Lib.hid hW0; have HbW := Lib.hid hbW
  clear hq hW0 hbW K1 K2 hE rc rd
  go_enter Tryd.func38, Tryd.ntmps38
  go_wp2_with fail
  rw [HW.out]
  refine HQ.out.mono ?_
  rintro e w1 ⟨rfl, hb1⟩
  have Hb1 := Lib.hid hb1; clear hb1
  go_wp2
  go_ret
  exact ⟨rfl, HbW.out.trans (Hb1.out.mono HbW.out.size)⟩
end Go.Proofs.YtamgimdjnmcpaaaDoor
