/-
  The walks of the model's TwistMatrix, l11Table, ApplyTable and TimesTable.
-/
import Derived.Test.YtamgimdjnmcpaaaDoorBase
import Derived.Test.YtamgimdjnmcpaaaDoorSlice
import Derived.Test.YtamgimdjnmcpaaaDoorIntRow
import Derived.Test.YtamgimdjnmcpaaaDoorInts
import Derived.Test.YtamgimdjnmcpaaaDoorOwn
import Derived.Test.YtamgimdjnmcpaaaDoorAppend
import Derived.Test.YtamgimdjnmcpaaaDoorIsWord
import Derived.Test.YtamgimdjnmcpaaaDoorGrid
import Derived.Test.YtamgimdjnmcpaaaDoorGridWalk
import Derived.Test.YtamgimdjnmcpaaaDoorGridRows
import Derived.Test.YtamgimdjnmcpaaaDoorGivesRows
import Derived.Test.YtamgimdjnmcpaaaDoorRowI
import Derived.Test.YtamgimdjnmcpaaaDoorRowsLit
import Derived.Test.YtamgimdjnmcpaaaDoorMoveA
import Derived.Test.YtamgimdjnmcpaaaDoorMoveB
import Derived.Test.YtamgimdjnmcpaaaDoorTw
import Derived.Test.YtamgimdjnmcpaaaDoorTwB
import Derived.Test.YtamgimdjnmcpaaaDoorTwC
import Derived.Test.YtamgimdjnmcpaaaDoorTwS
import Derived.Test.YtamgimdjnmcpaaaDoorTwD
import Derived.Test.YtamgimdjnmcpaaaDoorTwE
import Derived.Test.YtamgimdjnmcpaaaDoorTabPut
import Derived.Deep.QuietTactic
import Derived.BigQuiet
import Derived.StillTailTactics
namespace Go.Proofs.YtamgimdjnmcpaaaDoor
open Go.RowKit

theorem GivesRows2.nilAt {w w' : World} {a : Option Addr} {b : Bool} (hb : Below w.heap.size w w') : GivesRows2 w [] b (.returned (.tuple #[.slice a 0 0, .bool b])) w' := GivesRows2.none hb (Nat.zero_le _)
set_option maxRecDepth 10000 in
set_option maxHeartbeats 1000000 in
theorem spec_l11Table (a : Option Addr) (c : Nat) (T : List (List Int)) (w : World) (ha : GridAt w a T) (hn : T.length ≤ 1048576) (hT : ∀ r ∈ T, r.length ≤ 1048576) :
    Calls Tryd.prog 62 #[.slice a T.length c] w fun e w' => e = .returned (.bool (decide (Tw.IsT T))) ∧ w' = w := by
  have Ha := Lib.hid ha; have HT := Lib.hid hT
  have hL := spec_l1In (T.length : Int) 1 6 w
  obtain ⟨v, hv⟩ : ∃ v, decide ((1 : Int) ≤ (T.length : Int) ∧ (T.length : Int) ≤ 6) = v := ⟨_, rfl⟩
  rw [hv] at hL
  have HL := Lib.hid hL; have Hv := Lib.hid hv
  clear ha hT hL hv
  go_enter Tryd.func62, Tryd.ntmps62
  go_wp2
  go_loopw [2, 3] (fun rv iv wr => rv = .bool false ∧ ∃ i : Nat, i ≤ T.length ∧ iv = .int .i64 i ∧ Hid (∀ j r, T[j]? = some r → j < i → r.length = T.length ∧ Tw.Fits r) ∧ wr = w) (fun _ iv _ => T.length - (intOf iv).toNat)
  case atStart => exact ⟨rfl, 0, by omega, rfl, Lib.hid (fun j r _ h => by omega), rfl⟩
  case round =>
    obtain ⟨rfl, i, hi, rfl, hall, hw⟩ := hrel
    rw [hw]; clear hw wr
    by_cases hlt : i < T.length
    · obtain ⟨r, hr⟩ := get_some hlt
      obtain ⟨b, o, ai, ci, eb, hbw, hcell, hrow⟩ := Ha.out.get hr
      subst eb
      have hA := spec_l11Fits ai ci r w hrow (HT.out r (get_mem hr))
      have Hr := Lib.hid hr
      have i0 : (0 : Int) ≤ (i : Int) := by omega
      have i1 : (i : Int) < (T.length : Int) := by omega
      clear hr hrow
      by_cases hl : r.length = T.length
      · have t3 : ((r.length : Int) != (T.length : Int)) = false := by simp [hl]
        by_cases hF : Tw.Fits r
        · rw [decide_eq_true hF] at hA
          have HA := Lib.hid hA
          have Hx := Lib.hid (And.intro hl hF)
          clear hA hF hl
          go_wp2_with fail
          refine HA.out.mono ?_
          rintro e w5 ⟨rfl, hw⟩
          rw [hw]; clear hw w5
          go_wp2
          go_roundw
          case rel => exact ⟨rfl, i + 1, by omega, by go_num, Lib.hid (fun j y hy h => by
            rcases Nat.lt_or_ge j i with h' | h'
            · exact hall.out j y hy h'
            · obtain rfl : j = i := by omega
              rw [Hr.out] at hy
              cases hy; exact Hx.out), by first | rfl | trivial⟩
          case measure => simp [intOf]; omega
        · rw [decide_eq_false hF] at hA
          have HA := Lib.hid hA
          have Hno := Lib.hid (show decide (Tw.IsT T) = false from decide_eq_false fun h => hF (h.2 r (get_mem Hr.out)).2)
          clear hA hF hl
          go_wp2_with fail
          refine HA.out.mono ?_
          rintro e w5 ⟨rfl, hw⟩
          rw [hw]; clear hw w5
          go_wp2
          go_ret
          exact ⟨by rw [Hno.out]; rfl, rfl⟩
      · have t3 : ((r.length : Int) != (T.length : Int)) = true := by simp; omega
        have Hno := Lib.hid (show decide (Tw.IsT T) = false from decide_eq_false fun h => hl (h.2 r (get_mem Hr.out)).1)
        clear hA hl
        go_wp2
        go_ret
        exact ⟨by rw [Hno.out]; rfl, rfl⟩
    · obtain rfl : i = T.length := by omega
      have Hd := Lib.hid (show decide (Tw.IsT T) = v from Eq.trans (decide_eq_decide.2 ⟨fun h => by have := h.1; omega, fun h => ⟨by omega, fun r hr => by
        obtain ⟨j, hj, rfl⟩ := List.mem_iff_getElem.1 hr
        exact hall.out j _ (List.getElem?_eq_getElem hj) hj⟩⟩) Hv.out)
      go_wp2_with fail
      refine HL.out.mono ?_
      rintro e w5 ⟨rfl, hw⟩
      rw [hw]; clear hw w5
      go_wp2
      go_ret
      exact ⟨by rw [Hd.out]; rfl, rfl⟩
theorem Tw.app_take {t : List (List Int)} {x r : List Int} {i : Nat} (h : t[i]? = some r) : (Tw.app t x).take (i + 1) = (Tw.app t x).take i ++ [Tw.dot r x] := by
  rw [List.take_add_one]
  unfold Tw.app
  rw [List.getElem?_map, h]; rfl
set_option maxRecDepth 10000 in
set_option maxHeartbeats 2000000 in
theorem spec_ApplyTable (a : Option Addr) (c : Nat) (T : List (List Int)) (ax : Option Addr) (cx : Nat) (x : List Int) (w : World) (ha : GridAt w a T) (hn : T.length ≤ 1048576) (hT : ∀ r ∈ T, r.length ≤ 1048576) (hx : RowAt w ax (intCells x)) (hlx : x.length ≤ 1048576) :
    Calls Tryd.prog 21 #[.slice a T.length c, .slice ax x.length cx] w fun e w' => Gives2 w (Tw.apply T x) (decide (Tw.AppOk T x)) e w' := by
  have hI := spec_l11Table a c T w ha hn hT
  by_cases cT : Tw.IsT T
  · rw [decide_eq_true cT] at hI
    by_cases hl : x.length = T.length
    · have t1 : ((x.length : Int) != (T.length : Int)) = false := by simp [hl]
      have hA := spec_l11Fits ax cx x w hx hlx
      by_cases cX : Tw.Fits x
      · rw [decide_eq_true cX] at hA
        obtain ⟨i0, hi0, hz0, hz1, hz2⟩ := info_int_parts
        have Hi0 := Lib.hid hi0; have Hz0 := Lib.hid hz0; have Hz1 := Lib.hid hz1; have Hz2 := Lib.hid hz2
        have hres := Tw.apply_keep ⟨cT, hl, cX⟩
        rw [hres.1, hres.2]
        have h6 := cT.1.2
        have Hl := Lib.hid hl; have FT := Lib.hid cT.2; have FX := Lib.hid cX
        have HI := Lib.hid hI; have HA := Lib.hid hA; have Ha := Lib.hid ha; have Rx := Lib.hid hx
        have Hal := Lib.hid (Tw.app_len T x)
        have R0 := Lib.hid (RowI.made (Below.refl w.heap.size w) (Nat.le_refl _))
        clear hI hA ha hx cT cX hres hl hi0 hz0 hz1 hz2
        go_enter Tryd.func21, Tryd.ntmps21
        go_wp2_with fail
        refine HI.out.mono ?_
        rintro e w1 ⟨rfl, hw⟩
        rw [hw]; clear hw w1
        go_wp2_with fail
        refine HA.out.mono ?_
        rintro e w1 ⟨rfl, hw⟩
        rw [hw]; clear hw w1
        go_wp2
        go_loopw [6, 7, 8, 9] (fun ov iv _ _ wr => ∃ i : Nat, i ≤ T.length ∧ iv = .int .i64 i ∧ Hid (RowI w w.heap.size wr ov ((Tw.app T x).take i))) (fun _ iv _ _ _ => T.length - (intOf iv).toNat)
        case atStart => exact ⟨0, by omega, rfl, R0⟩
        case round =>
          obtain ⟨i, hi, rfl, hR⟩ := hrel
          have htl : ((Tw.app T x).take i).length = i := by rw [List.length_take, Hal.out]; omega
          by_cases hlt : i < T.length
          · obtain ⟨r, hr⟩ := get_some hlt
            obtain ⟨b, o, ai, ci, eb, hbw, hcell0, hrow⟩ := Ha.out.get hr
            subst eb
            obtain ⟨hrl, hrF⟩ := FT.out r (get_mem hr)
            have Hr := Lib.hid hr; have Hrow := Lib.hid hrow; have HrF := Lib.hid hrF
            rw [hrl, ← Hl.out] at hcell0
            have Hcell := Lib.hid (fun W (hb : Below w.heap.size w W) => show W.cell? ⟨b, o + i, none⟩ = some (.slice ai x.length ci) from by rw [hb.cell hbw]; exact hcell0)
            have Hrl := Lib.hid (show r.length = x.length by rw [hrl, Hl.out])
            have htk := Tw.app_take (x := x) hr
            have Htk := Lib.hid htk
            have q0 : (0 : Int) ≤ (i : Int) := by omega
            have q1 : (i : Int) < (T.length : Int) := by omega
            clear hr hrow hrl hrF hcell0 hbw htk
            obtain ⟨wo, hwo⟩ : ∃ wo : World, wo = wr := ⟨_, rfl⟩
            subst hwo
            go_wp2
            go_loopw [8, 9] (fun sv jv wr => ∃ j : Nat, j ≤ x.length ∧ jv = .int .i64 j ∧ sv = .int .i64 (Tw.dotTo r x j) ∧ Hid (Below wo.heap.size wo wr)) (fun _ jv _ => x.length - (intOf jv).toNat)
            case atStart => exact ⟨0, by omega, rfl, rfl, Lib.hid (Below.refl _ _)⟩
            case round =>
              obtain ⟨j, hj, rfl, rfl, hb⟩ := hrel
              have hbw := hR.out.2.trans (hb.out.mono hR.out.2.size)
              by_cases hjt : j < x.length
              · have hc0 := Hcell.out wr hbw
                obtain ⟨b1, o1, e1, _, hc1⟩ := intCells_get? (Hrow.out.below hbw) (Tw.get?_nth (show j < r.length by rw [Hrl.out]; exact hjt))
                obtain ⟨b2, o2, e2, _, hc2⟩ := intCells_get? (Rx.out.below hbw) (Tw.get?_nth hjt)
                subst e1; subst e2
                have hd := Tw.dotTo_bound HrF.out FX.out j
                have p1 := Tw.mul_abs (A := 1000) (B := 1000) (HrF.out.nth j) (FX.out.nth j)
                have hst : Tw.dotTo r x (j + 1) = Tw.dotTo r x j + Tw.nth r j * Tw.nth x j := rfl
                generalize Tw.nth r j = A at *
                generalize Tw.nth x j = B at *
                obtain ⟨P, hP⟩ : ∃ P, A * B = P := ⟨_, rfl⟩
                rw [hP] at p1 hst
                obtain ⟨S, hS⟩ : ∃ S, Tw.dotTo r x j = S := ⟨_, rfl⟩
                rw [hS] at hd hst ⊢
                have e1 : IntKind.i64.wrap (A * B) = P := by rw [hP]; exact wrap_small (by omega) (by omega)
                have e2 : IntKind.i64.wrap (S + P) = S + P := wrap_small (by omega) (by omega)
                have j0 : (0 : Int) ≤ (j : Int) := by omega
                have j1 : (j : Int) < (x.length : Int) := by omega
                have Hst := Lib.hid hst
                clear hP hd p1 hS hst hbw
                go_wp2
                go_quiet (fail)
                all_goals go_wp2
                all_goals
                  go_roundw
                  case rel => exact ⟨j + 1, by omega, by go_num, by rw [Hst.out], Lib.hid (below_drewN hb.out _)⟩
                  case measure => simp [intOf]; omega
              · obtain rfl : j = x.length := by omega
                have hR2 := RowI.below hR.out hR.out.2.size hb.out
                have hown := hR2.1
                rw [htl] at hown
                have hN : w.heap.size ≤ wr.heap.size := hbw.size
                obtain ⟨ova, ovc, hov⟩ := own_len hown
                subst hov
                obtain ⟨S, hS⟩ : ∃ S, Tw.dotTo r x x.length = S := ⟨_, rfl⟩
                have htk2 : (Tw.app T x).take (i + 1) = (Tw.app T x).take i ++ [S] := by rw [Htk.out, ← hS]; rfl
                rw [hS]
                have Hmore := Lib.hid (fun (w3 : World) (v3 : Value) (k1 : w3.ownsRow w.heap.size 3 1 v3 (((Tw.app T x).take i).length + 1) (intCells ((Tw.app T x).take i) ++ [.int .i64 S])) (k2 : (wr.alloc (.cells #[.int .i64 S] 3)).grownBy w3 (Value.slice ova i ovc).ownBlock) => hR2.more hN k1 k2)
                rw [htl] at Hmore
                have Hown := Lib.hid hown; have Htk2 := Lib.hid htk2
                have hm1 : i + 1 ≤ maxLen := by unfold maxLen; omega
                have hm2 : (i + 1) * 8 ≤ 140737488355328 := by omega
                clear hown hR2 htk2 hbw hS htl hR
                go_wp2_with (at_builtin; refine append_one rfl (.tmp 53) (.tmp 55) 24 rfl w.heap.size 3 i0 _ 8 Tryd.underlying24 Hi0.out Hz0.out Hz1.out Hz2.out (by rfl) _ _ _ rfl Hown.out (by rfl) _ rfl hm1 hm2 hN ?_; intro v1 w5 hown5 hg5 _; have Hown5 := Lib.hid hown5; have Hg5 := Lib.hid hg5; clear hown5 hg5)
                go_roundw
                case rel => exact ⟨i + 1, by omega, by go_num, Lib.hid (by rw [Htk2.out]; exact Hmore.out w5 v1 Hown5.out Hg5.out)⟩
                case measure => simp [intOf]; omega
          · obtain rfl : i = T.length := by omega
            rw [List.take_of_length_le (by rw [Hal.out]; exact Nat.le_refl _)] at hR
            have hG := hR.out.gives
            obtain ⟨ga, gc, hv, hrow, hbb⟩ := hG.form
            rw [Hal.out] at hv
            subst hv
            have hA := spec_l11Fits ga gc (Tw.app T x) wr hrow (by rw [Hal.out]; omega)
            rw [Hal.out] at hA
            have HA := Lib.hid hA; have HG := Lib.hid hG; have Hbb := Lib.hid hbb
            clear hA hG hrow hbb hR htl
            by_cases hFt : Tw.Fits (Tw.app T x)
            · rw [decide_eq_true hFt] at HA
              have HFt := Lib.hid hFt; clear hFt
              go_wp2_with fail
              refine HA.out.mono ?_
              rintro e w5 ⟨rfl, hw⟩
              rw [hw]; clear hw w5
              go_wp2
              go_ret2
              rw [Tw.ok_true HFt.out, Tw.keep_true HFt.out]
              exact HG.out.with
            · rw [decide_eq_false hFt] at HA
              have HFt := Lib.hid hFt; clear hFt
              go_wp2_with fail
              refine HA.out.mono ?_
              rintro e w5 ⟨rfl, hw⟩
              rw [hw]; clear hw w5
              go_wp2
              go_ret2
              rw [Tw.ok_false HFt.out, Tw.keep_false HFt.out]
              exact Gives2.nilAt (Hbb.out.alloc Hbb.out.size _)
      · rw [decide_eq_false cX] at hA
        have hno : ¬ Tw.AppOk T x := fun h => cX h.1.2.2
        rw [Tw.apply_none hno, decide_eq_false hno]
        have HI := Lib.hid hI; have HA := Lib.hid hA
        clear hI hA ha hx cT cX hno hl
        go_enter Tryd.func21, Tryd.ntmps21
        go_wp2_with fail
        refine HI.out.mono ?_
        rintro e w1 ⟨rfl, hw⟩
        rw [hw]; clear hw w1
        go_wp2_with fail
        refine HA.out.mono ?_
        rintro e w1 ⟨rfl, hw⟩
        rw [hw]; clear hw w1
        go_wp2
        go_ret2
        exact Gives2.nilAt ((Below.refl _ _).alloc (Nat.le_refl _) _)
    · have t1 : ((x.length : Int) != (T.length : Int)) = true := by simp; omega
      have hno : ¬ Tw.AppOk T x := fun h => hl h.1.2.1
      rw [Tw.apply_none hno, decide_eq_false hno]
      have HI := Lib.hid hI
      clear hI ha hx cT hno hl
      go_enter Tryd.func21, Tryd.ntmps21
      go_wp2_with fail
      refine HI.out.mono ?_
      rintro e w1 ⟨rfl, hw⟩
      rw [hw]; clear hw w1
      go_wp2
      go_ret2
      exact Gives2.nilAt ((Below.refl _ _).alloc (Nat.le_refl _) _)
  · rw [decide_eq_false cT] at hI
    have hno : ¬ Tw.AppOk T x := fun h => cT h.1.1
    rw [Tw.apply_none hno, decide_eq_false hno]
    have HI := Lib.hid hI
    clear hI ha hx cT hno
    go_enter Tryd.func21, Tryd.ntmps21
    go_wp2_with fail
    refine HI.out.mono ?_
    rintro e w1 ⟨rfl, hw⟩
    rw [hw]; clear hw w1
    go_wp2
    go_ret2
    exact Gives2.nilAt ((Below.refl _ _).alloc (Nat.le_refl _) _)
theorem Tw.rep_snoc (n i : Nat) : List.replicate (i + 1) (List.replicate n (0 : Int)) = List.replicate i (List.replicate n 0) ++ [List.replicate n 0] := by
  rw [List.replicate_succ']
/-- The columns that are images, if all of the first j have come to be classes. -/
theorem Tw.mat_part {g : Int} {c : List Int} {n : Nat} (hc : Tw.IsC g c) (hn : c.length = n) (hall : ∀ j, j < n → Tw.TwOk g c (Tw.unit n j) 1) : Tw.cols ((List.range n).map fun j => Tw.twist g c (Tw.unit n j) 1) = Tw.mat g c ∧ Tw.MatOk g c := by
  have h := Tw.mat_tab hc hn
  have hall2 : (Tw.units n n).all (fun x => decide (Tw.TwOk g c x 1)) = true := by
    rw [List.all_eq_true]
    intro x hx
    unfold Tw.units at hx
    obtain ⟨j, hj, rfl⟩ := List.mem_map.1 hx
    exact decide_eq_true (hall j (List.mem_range.1 hj))
  have h1 := h.1
  rw [Tw.tab_true hall2] at h1
  refine ⟨?_, of_decide_eq_true (by rw [← h.2]; exact hall2)⟩
  rw [← h1]
  unfold Tw.units
  rw [List.map_map]; rfl
theorem Tw.mat_bad {g : Int} {c : List Int} {n j : Nat} (hc : Tw.IsC g c) (hn : c.length = n) (hj : j < n) (h : ¬ Tw.TwOk g c (Tw.unit n j) 1) : ¬ Tw.MatOk g c := fun hm => by
  have h2 := (Tw.mat_tab hc hn).2
  rw [decide_eq_true hm, List.all_eq_true] at h2
  exact h (of_decide_eq_true (h2 _ (List.mem_map.2 ⟨j, List.mem_range.2 hj, rfl⟩)))
set_option maxRecDepth 10000 in
set_option maxHeartbeats 4000000 in
theorem spec_TwistMatrix (g : Int) (ac : Option Addr) (cc : Nat) (c : List Int) (w : World) (hc : RowAt w ac (intCells c)) (hlc : c.length ≤ 1048576) :
    Calls Tryd.prog 18 #[.int .i64 g, .slice ac c.length cc] w fun e w' => GivesRows2 w (Tw.mat g c) (decide (Tw.MatOk g c)) e w' := by
  have hC := spec_IsClass g ac cc c w hc hlc
  by_cases cC : Tw.IsC g c
  · rw [decide_eq_true cC] at hC
    obtain ⟨i0, hi0, hz0, hz1, hz2⟩ := info_ints_parts
    have Hi0 := Lib.hid hi0; have Hz0 := Lib.hid hz0; have Hz1 := Lib.hid hz1; have Hz2 := Lib.hid hz2
    have hl := cC.len
    obtain ⟨n, hn⟩ : ∃ n, c.length = n := ⟨_, rfl⟩
    have hn6 : n ≤ 6 := by omega
    have hn1 : 0 < n := by omega
    have e1 : IntKind.i64.wrap (2 * g) = (n : Int) := by rw [← hn, cC.2.1]; have := cC.1; exact wrap_small (by omega) (by omega)
    have hmk := fun W => mk_zeros n (by omega) W
    have hT := fun W (hb : Below w.heap.size w W) (ua : Option Addr) (uc j : Nat) (hj : j < n) (hu : RowAt W ua (intCells (Tw.unit n j))) => spec_TwistClass g ac cc c ua uc (Tw.unit n j) 1 W (hc.below hb) hlc hu (by rw [Tw.unit_len]; omega)
    have hU := fun W j (hj : j < n) => spec_l11Unit n j W (by omega) hj
    have HCn := Lib.hid hn; have HcC := Lib.hid cC
    have R0 := Lib.hid (show RowsIn w w.heap.size (w.alloc (.cells #[] 24)) (.slice (some ⟨w.heap.size, 0, none⟩) 0 0) [] from RowsIn.made (Below.refl w.heap.size w) (Nat.le_refl _))
    have HC := Lib.hid hC; have HT := Lib.hid hT; have HU := Lib.hid hU
    simp only [Tw.unit_len] at HT
    clear hC hT hU hl hn cC hc hi0 hz0 hz1 hz2
    go_enter Tryd.func18, Tryd.ntmps18
    go_wp2_with fail
    refine HC.out.mono ?_
    rintro e w1 ⟨rfl, hw⟩
    rw [hw]; clear hw w1
    go_wp2
    go_loopw [6, 7] (fun ov iv wr => ∃ i : Nat, i ≤ n ∧ iv = .int .i64 i ∧ Hid (RowsIn w w.heap.size wr ov (List.replicate i (List.replicate n 0)))) (fun _ iv _ => n - (intOf iv).toNat)
    case atStart => exact ⟨0, by omega, rfl, R0⟩
    case round =>
      obtain ⟨i, hi, rfl, hR⟩ := hrel
      by_cases hlt : i < n
      · obtain ⟨hs, h1, h2, h3, h4, h5⟩ := hR.out
        rw [List.length_replicate] at h2
        have hN := h5.size
        obtain ⟨ova, ovc, hov⟩ := own_len h2
        subst hov
        have hb8 : Below wr.heap.size wr (wr.alloc (.cells (intCells (List.replicate n 0)).toArray 3)) := (Below.refl wr.heap.size wr).alloc (Nat.le_refl _) _
        have hf8 : Fresh (wr.alloc (.cells (intCells (List.replicate n 0)).toArray 3)) wr.heap.size 3 (some ⟨wr.heap.size, 0, none⟩) (intCells (List.replicate n 0)) := Fresh.of_blk (Blk.new wr _ _) (Nat.le_refl _)
        have ho8 := own_keep h2 hb8 (fun k hk => (h2.lt k hk).2)
        have hN8 : w.heap.size ≤ (wr.alloc (.cells (intCells (List.replicate n 0)).toArray 3)).heap.size := Nat.le_trans hN hb8.size
        have hsz8 : (wr.alloc (.cells (intCells (List.replicate n 0)).toArray 3)).heap.size = wr.heap.size + 1 := by simp
        have Hpush := Lib.hid (fun (v9 : Value) (w9 : World) (q : Nat) (hc : (List.replicate n (0 : Int)).length ≤ q) (hown : w9.ownsRow w.heap.size 24 1 v9 ((List.replicate i (List.replicate n (0 : Int))).length + 1) (hdCells hs ++ [.slice (some ⟨wr.heap.size, 0, none⟩) (List.replicate n (0 : Int)).length q])) (hg : ((wr.alloc (.cells (intCells (List.replicate n 0)).toArray 3)).alloc (.cells #[.slice (some ⟨wr.heap.size, 0, none⟩) (List.replicate n (0 : Int)).length q] 24)).grownBy w9 (Value.slice ova i ovc).ownBlock) => RowsIn.push h1 (by rw [List.length_replicate]; exact h2) h3 h4 h5 hN hb8 hf8 hc hown hg)
        obtain ⟨W8, hW8⟩ : ∃ W8, wr.alloc (.cells (intCells (List.replicate n 0)).toArray 3) = W8 := ⟨_, rfl⟩
        rw [hW8] at ho8 hN8 hsz8 Hpush
        have Ho8 := Lib.hid ho8; have HW8 := Lib.hid hW8
        have hd1 : i + 1 ≤ maxLen := by unfold maxLen; omega
        have hd2 : (i + 1) * 24 ≤ 140737488355328 := by omega
        clear h1 h2 h3 h4 h5 hb8 hf8 ho8 hN hW8
        go_wp2_with (at_builtin; rw [HW8.out]; refine append_one_at (wr.heap.size + 1) hsz8 rfl (.tmp 24) (.tmp 28) 31 rfl w.heap.size 24 i0 _ 24 Tryd.underlying31 Hi0.out Hz0.out Hz1.out Hz2.out (by rfl) _ _ _ rfl Ho8.out (by rfl) _ (by rfl) hd1 hd2 hN8 ?_; intro v2 w2 hown3 hg2 _)
        go_roundw
        case rel => exact ⟨i + 1, by omega, by go_num, Lib.hid (by rw [Tw.rep_snoc]; exact Hpush.out v2 w2 n (by rw [List.length_replicate]; exact Nat.le_refl _) (by rw [List.length_replicate, List.length_replicate]; exact hown3) (by rw [List.length_replicate]; exact hg2))⟩
        case measure => simp [intOf]; omega
      · obtain rfl : i = n := by omega
        obtain ⟨hH, hbw⟩ := hR.out.held
        have hz : Tw.part (fun j => Tw.twist g c (Tw.unit i j) 1) (fun _ _ => 0) i 0 0 = List.replicate i (List.replicate i 0) := Tw.part_zero
        rw [← hz] at hH
        obtain ⟨G, cp, hov, hG1, hG2, hcp, hcm⟩ := hH.form (by rw [Tw.part_len]; exact hn1)
        rw [Tw.part_len] at hov
        subst hov
        have HH := Lib.hid hH; have Hbw := Lib.hid hbw
        have HGl := Lib.hid hG1
        clear hR hH hbw hz hG2 hmk
        go_wp2
        clear R0
        go_loopw [4, 5, 8, 9, 10, 11] (fun rv sv jv _ _ _ wr => rv = .slice none 0 0 ∧ sv = .bool false ∧ ∃ j : Nat, j ≤ i ∧ jv = .int .i64 j ∧ Hid (Held wr w.heap.size (.slice (some ⟨G, 0, none⟩) i cp) (Tw.part (fun j => Tw.twist g c (Tw.unit i j) 1) (fun _ _ => 0) i j 0)) ∧ Hid (Below w.heap.size w wr) ∧ Hid (∀ q, q < j → Tw.TwOk g c (Tw.unit i q) 1)) (fun _ _ jv _ _ _ _ => i - (intOf jv).toNat)
        case atStart => exact ⟨rfl, rfl, 0, by omega, rfl, HH, Hbw, Lib.hid (fun q hq => by omega)⟩
        case round =>
          obtain ⟨rfl, rfl, j, hj, rfl, hh, hb, hok⟩ := hrel
          by_cases hjt : j < i
          · have hu := HU.out wr j hjt
            have Hu := Lib.hid hu
            clear hu
            have j0 : (0 : Int) ≤ (j : Int) := by omega
            go_wp2_with fail
            refine Hu.out.mono ?_
            rintro e w3 ⟨ua, uc, rfl, _, _, hf3, hb3⟩
            rw [Tw.unit_len]
            have hq := HT.out w3 (hb.out.trans (hb3.mono hb.out.size)) ua uc j hjt hf3.row
            have Hq := Lib.hid hq; have Hb3 := Lib.hid hb3
            clear hf3 hb3 hq
            by_cases hk : Tw.TwOk g c (Tw.unit i j) 1
            · rw [decide_eq_true hk] at Hq
              have Hk := Lib.hid hk
              have hXl : (Tw.twist g c (Tw.unit i j) 1).length = i := by rw [Tw.twist_len (decide_eq_true hk), Tw.unit_len]
              have HXl := Lib.hid hXl
              have HFj := Lib.hid (show (fun j => Tw.twist g c (Tw.unit i j) 1) j = Tw.twist g c (Tw.unit i j) 1 from rfl)
              clear hk hXl
              go_wp2_with fail
              refine Hq.out.mono ?_
              rintro e w4 ⟨xa, xc, rfl, hxc, _, hf4, hb4⟩
              rw [HXl.out]
              have hb34 := Hb3.out.trans (hb4.mono Hb3.out.size)
              have HhB := Lib.hid ((hh.out.toB).below hb34)
              have Hx4 := Lib.hid ((RowIn.of_fresh hf4).mono Hb3.out.size (Nat.le_refl _))
              have Hb4 := Lib.hid (hb.out.trans (hb34.mono hb.out.size))
              have HM := Lib.hid hb.out.size
              have HM4 := Lib.hid hb34.size
              obtain ⟨M, hM⟩ : ∃ M, wr.heap.size = M := ⟨_, rfl⟩
              rw [hM] at HhB Hx4 HM HM4
              clear hf4 hb4 hb34 hM hh hb Hq Hb3 hxc
              go_wp2
              go_loopw [11] (fun iv wr => ∃ k : Nat, k ≤ i ∧ iv = .int .i64 k ∧ Hid (HeldB wr w.heap.size M (.slice (some ⟨G, 0, none⟩) i cp) (Tw.part (fun j => Tw.twist g c (Tw.unit i j) 1) (fun _ _ => 0) i j k)) ∧ Hid (RowIn wr M w4.heap.size 3 xa (intCells (Tw.twist g c (Tw.unit i j) 1))) ∧ Hid (Below w.heap.size w wr ∧ M ≤ wr.heap.size)) (fun iv _ => i - (intOf iv).toNat)
              case atStart => exact ⟨0, by omega, rfl, HhB, Hx4, Lib.hid ⟨Hb4.out, HM4.out⟩⟩
              case round =>
                obtain ⟨k, hk, rfl, hB, hx, hbb⟩ := hrel
                by_cases hkt : k < i
                · have hrow := Tw.part_get (F := fun j => Tw.twist g c (Tw.unit i j) 1) (z := fun _ _ => 0) (j := j) (k := k) hkt
                  obtain ⟨g', o', ci, hhd, hfz, ⟨u, hdst⟩, hlo, hgM, hst⟩ := hB.out.store hrow (j := j) (by simpa using hjt)
                  have hc1 := hhd G i cp rfl
                  simp only [List.length_map, List.length_range] at hc1
                  obtain ⟨b2, o2, e2, _, hc2⟩ := intCells_get? hx.out.row (Tw.get?_nth (show k < (Tw.twist g c (Tw.unit i j) 1).length by rw [HXl.out]; exact hkt))
                  subst e2
                  have hput := Tw.part_put (F := fun j => Tw.twist g c (Tw.unit i j) 1) (z := fun _ _ => 0) hjt hkt
                  have hst2 := hst (Tw.nth (Tw.twist g c (Tw.unit i j) 1) k)
                  rw [hput] at hst2
                  have Hst := Lib.hid hst2
                  have HgM := Lib.hid hgM; have Hlo := Lib.hid hlo
                  generalize Tw.nth (Tw.twist g c (Tw.unit i j) 1) k = V at *
                  have k0 : (0 : Int) ≤ (k : Int) := by omega
                  have k1 : (k : Int) < (i : Int) := by omega
                  have j1 : (j : Int) < (i : Int) := by omega
                  clear hrow hhd hst hst2 hput hlo hgM
                  go_wp2
                  go_still_tail 10, (by kernel_rfl)
                  change wpList _ _ _ _ _ wr.drew
                  go_wp2
                  go_roundw
                  case rel => exact ⟨k + 1, by omega, by go_num, Lib.hid (by have h := Hst.out.below (Below.drew (Below.refl _ _)); exact h), Lib.hid ((hx.out.setFar (p := ⟨g', o' + j, none⟩) HgM.out (.int .i64 V)).below (Below.drew (Below.refl _ _))), Lib.hid ⟨Below.drew (Below.setCell hbb.out.1 Hlo.out _), by have := hbb.out.2; simpa [World.setCell] using this⟩⟩
                  case measure => simp [intOf]; omega
                · obtain rfl : k = i := by omega
                  go_wp2
                  go_roundw
                  case rel => exact ⟨rfl, rfl, j + 1, by omega, by go_num, Lib.hid (by rw [← Tw.part_next]; exact hB.out.held hbb.out.2), Lib.hid hbb.out.1, Lib.hid (fun q hq => by
                    rcases Nat.lt_or_ge q j with h | h
                    · exact hok.out q h
                    · obtain rfl : q = j := by omega
                      exact Hk.out)⟩
                  case measure => simp [intOf]; omega
            · have hno := Tw.mat_bad HcC.out HCn.out hjt hk
              rw [decide_eq_false hk] at Hq
              have Hno := Lib.hid hno
              clear hk hno
              go_wp2_with fail
              refine Hq.out.mono ?_
              rintro e w4 ⟨xa, xc, rfl, _, _, _, hb4⟩
              have Hb4 := Lib.hid (hb.out.trans ((Hb3.out.trans (hb4.mono Hb3.out.size)).mono hb.out.size)); clear hb4
              go_wp2
              go_ret2
              rw [Tw.mat_none Hno.out, decide_eq_false Hno.out]
              exact GivesRows2.nilAt (Hb4.out.alloc Hb4.out.size _)
          · obtain rfl : j = i := by omega
            have hp := Tw.mat_part HcC.out HCn.out hok.out
            have hall : Tw.part (fun q => Tw.twist g c (Tw.unit j q) 1) (fun _ _ => 0) j j 0 = Tw.mat g c := by rw [Tw.part_all]; exact hp.1
            rw [hall] at hh
            have Hok := Lib.hid hp.2
            have hg := hh.out.gives (b := true) hb.out
            have Hg := Lib.hid hg
            clear hp hall hg
            go_wp2
            go_ret2
            rw [decide_eq_true Hok.out]
            exact Hg.out
  · rw [decide_eq_false cC] at hC
    have hno : ¬ Tw.MatOk g c := fun h => cC h.1
    rw [Tw.mat_none hno, decide_eq_false hno]
    have HC := Lib.hid hC
    clear hC cC hc hno
    go_enter Tryd.func18, Tryd.ntmps18
    go_wp2_with fail
    refine HC.out.mono ?_
    rintro e w1 ⟨rfl, hw⟩
    rw [hw]; clear hw w1
    go_wp2
    go_ret2
    exact GivesRows2.nilAt ((Below.refl _ _).alloc (Nat.le_refl _) _)
end Go.Proofs.YtamgimdjnmcpaaaDoor
