/-
  The walks of the program's isTable, ApplyTable, commonDivisor and IsPrimitiveClass.
-/
import Derived.Test.YtamgimdjnmcpaaaDoorBase
import Derived.Test.YtamgimdjnmcpaaaDoorSlice
import Derived.Test.YtamgimdjnmcpaaaDoorIntRow
import Derived.Test.YtamgimdjnmcpaaaDoorInts
import Derived.Test.YtamgimdjnmcpaaaDoorOwn
import Derived.Test.YtamgimdjnmcpaaaDoorTw
import Derived.Test.YtamgimdjnmcpaaaDoorTwErr
import Derived.Test.YtamgimdjnmcpaaaDoorTwA
import Derived.Test.YtamgimdjnmcpaaaDoorTwB
import Derived.Test.YtamgimdjnmcpaaaDoorGrid
import Derived.Deep.QuietTactic
import Derived.Deep.RegionHeld3
import Derived.BigQuiet
import Derived.StillTailTactics
namespace Go.Proofs.YtamgimdjnmcpaaaDoor
open Go.RowKit

set_option maxRecDepth 10000 in
set_option maxHeartbeats 1000000 in
theorem impl_isTable (a : Option Addr) (c : Nat) (T : List (List Int)) (w : World) (hE : Errs w) (ha : GridAt w a T) (hn : T.length ≤ 1048576) (hT : ∀ r ∈ T, r.length ≤ 1048576) :
    Calls Tryd.prog 61 #[.slice a T.length c] w fun e w' => e = .returned (.bool (decide (Tw.IsT T))) ∧ Below w.heap.size w w' := by
  by_cases h1 : T.length = 0
  · have hd : decide (Tw.IsT T) = false := decide_eq_false fun h => by have := h.1.1; omega
    rw [hd]
    have t1 : ((T.length : Int) == 0) = true := beq_iff_eq.2 (by omega)
    clear ha hE hd
    go_enter Tryd.func61, Tryd.ntmps61
    go_wp2
    go_ret
    exact ⟨rfl, Below.refl _ _⟩
  · have t1 : ((T.length : Int) == 0) = false := beq_eq_false_iff_ne.2 (by omega)
    by_cases h6 : 6 < T.length
    · have hd : decide (Tw.IsT T) = false := decide_eq_false fun h => by have := h.1.2; omega
      rw [hd]
      have t2 : (6 : Int) < (T.length : Int) := by omega
      clear ha hE hd
      go_enter Tryd.func61, Tryd.ntmps61
      go_wp2
      go_ret
      exact ⟨rfl, Below.refl _ _⟩
    · have t2 : ¬ (6 : Int) < (T.length : Int) := by omega
      have Ha := Lib.hid ha; have HE := Lib.hid hE; have HT := Lib.hid hT
      have H16 := Lib.hid (show 1 ≤ T.length ∧ T.length ≤ 6 by omega)
      clear ha hE hT
      go_enter Tryd.func61, Tryd.ntmps61
      go_wp2
      go_loopw [2, 4, 15] (fun rv _ iv wr => rv = .bool false ∧ ∃ i : Nat, i ≤ T.length ∧ iv = .int .i64 i ∧ Hid (∀ j r, T[j]? = some r → j < i → r.length = T.length ∧ Tw.Fits r) ∧ Hid (Below w.heap.size w wr)) (fun _ _ iv _ => T.length - (intOf iv).toNat)
      case atStart => exact ⟨rfl, 0, by omega, rfl, Lib.hid (fun j r _ h => by omega), Lib.hid (Below.refl _ _)⟩
      case round =>
        obtain ⟨rfl, i, hi, rfl, hall, hb⟩ := hrel
        by_cases hlt : i < T.length
        · obtain ⟨r, hr⟩ := get_some hlt
          obtain ⟨b, o, ai, ci, rfl, hbw, hcell, hrow⟩ := (Ha.out.below hb.out).get hr
          have hA := impl_areTooGreat ai ci r wr (HE.out.keeps hb.out) hrow (by have := HT.out r (get_mem hr); omega)
          have Hr := Lib.hid hr
          clear hr hrow
          by_cases hl : r.length = T.length
          · have t3 : ((r.length : Int) != (T.length : Int)) = false := by simp [hl]
            by_cases hF : Tw.Fits r
            · rw [decide_eq_true hF] at hA
              have HA := Lib.hid hA
              have Hx := Lib.hid (And.intro hl hF)
              clear hA hF hl
              go_wp2_with fail
              refine HA.out.mono ?_
              rintro e w5 ⟨rfl, hb5⟩
              have Hb5 := Lib.hid (hb.out.trans (hb5.mono hb.out.size)); clear hb5
              go_wp2
              go_roundw
              case rel => exact ⟨rfl, i + 1, by omega, by go_num, Lib.hid (fun j y hy h => by
                rcases Nat.lt_or_ge j i with h' | h'
                · exact hall.out j y hy h'
                · obtain rfl : j = i := by omega
                  rw [Hr.out] at hy
                  cases hy; exact Hx.out), Hb5⟩
              case measure => simp [intOf]; omega
            · rw [decide_eq_false hF] at hA
              have HA := Lib.hid hA
              have Hno := Lib.hid (show decide (Tw.IsT T) = false from decide_eq_false fun h => hF (h.2 r (get_mem Hr.out)).2)
              clear hA hF hl
              go_wp2_with fail
              refine HA.out.mono ?_
              rintro e w5 ⟨rfl, hb5⟩
              have Hb5 := Lib.hid (hb.out.trans (hb5.mono hb.out.size)); clear hb5
              go_wp2
              go_ret
              exact ⟨by rw [Hno.out]; rfl, Hb5.out⟩
          · have t3 : ((r.length : Int) != (T.length : Int)) = true := by simp; omega
            have Hno := Lib.hid (show decide (Tw.IsT T) = false from decide_eq_false fun h => hl (h.2 r (get_mem Hr.out)).1)
            clear hA hl
            go_wp2
            go_ret
            exact ⟨by rw [Hno.out]; rfl, hb.out⟩
        · obtain rfl : i = T.length := by omega
          have Hd := Lib.hid (show decide (Tw.IsT T) = true from decide_eq_true ⟨H16.out, fun r hr => by
            obtain ⟨j, hj, rfl⟩ := List.mem_iff_getElem.1 hr
            exact hall.out j _ (List.getElem?_eq_getElem hj) hj⟩)
          go_wp2
          go_ret
          exact ⟨by rw [Hd.out]; rfl, hb.out⟩
namespace Tw
/-- The row of products, the next ones 0. -/
def appTo (t : List (List Int)) (x : List Int) (i j : Nat) : List Int := (List.range t.length).map fun m => if m < i then dot (t.getD m []) x else if m = i then dotTo (t.getD i []) x j else 0
theorem appTo_len (t : List (List Int)) (x : List Int) (i j : Nat) : (appTo t x i j).length = t.length := by simp [appTo]
theorem appTo_at {t : List (List Int)} {x r : List Int} {i j : Nat} (h : t[i]? = some r) : (appTo t x i j)[i]? = some (dotTo r x j) := by
  have hi := (List.getElem?_eq_some_iff.1 h).1
  unfold appTo
  rw [List.getElem?_map, List.getElem?_range hi]
  simp [List.getD_eq_getElem?_getD, h]
theorem appTo_zero (t : List (List Int)) (x : List Int) : appTo t x 0 0 = List.replicate t.length 0 := by
  unfold appTo
  refine List.ext_getElem (by simp) fun m h1 h2 => ?_
  simp only [List.getElem_map, List.getElem_range, List.getElem_replicate]
  by_cases h : m = 0
  · rw [if_neg (by omega), if_pos h]; rfl
  · rw [if_neg (by omega), if_neg h]
theorem appTo_put {t : List (List Int)} {x r : List Int} {i j : Nat} (h : t[i]? = some r) : (appTo t x i j).set i (dotTo r x j + nth r j * nth x j) = appTo t x i (j + 1) := by
  have hg : t.getD i [] = r := by rw [List.getD_eq_getElem?_getD, h]; rfl
  unfold appTo
  refine List.ext_getElem (by simp) fun m h1 h2 => ?_
  rw [List.getElem_set]
  simp only [List.getElem_map, List.getElem_range]
  by_cases e : i = m
  · subst e
    rw [if_pos rfl, if_neg (by omega), if_pos rfl, hg]; rfl
  · rw [if_neg e]
    by_cases h : m < i
    · rw [if_pos h, if_pos h]
    · rw [if_neg h, if_neg (by omega), if_neg h, if_neg (by omega)]
theorem appTo_next {t : List (List Int)} {x r : List Int} {i : Nat} (h : t[i]? = some r) : appTo t x i x.length = appTo t x (i + 1) 0 := by
  have hg : t.getD i [] = r := by rw [List.getD_eq_getElem?_getD, h]; rfl
  unfold appTo
  refine List.map_congr_left fun m _ => ?_
  by_cases e : m = i
  · subst e; rw [if_neg (by omega), if_pos rfl, if_pos (by omega), hg]; rfl
  · by_cases h : m < i
    · rw [if_pos h, if_pos (by omega)]
    · rw [if_neg h, if_neg (by omega), if_neg (by omega)]
      by_cases h2 : m = i + 1
      · rw [if_pos h2]; rfl
      · rw [if_neg h2]
theorem appTo_all (t : List (List Int)) (x : List Int) : appTo t x t.length 0 = app t x := by
  unfold appTo app
  refine List.ext_getElem (by simp) fun m h1 h2 => ?_
  rw [List.length_map, List.length_range] at h1
  simp only [List.getElem_map, List.getElem_range]
  rw [if_pos h1, List.getD_eq_getElem?_getD, List.getElem?_eq_getElem h1]; rfl
theorem apply_keep {t : List (List Int)} {x : List Int} (h : IsT t ∧ x.length = t.length ∧ Fits x) : apply t x = keep (app t x) ∧ decide (AppOk t x) = ok (app t x) := by
  by_cases hf : Fits (app t x)
  · exact ⟨by rw [keep_true hf]; exact if_pos ⟨h, hf⟩, by rw [ok_true hf]; exact decide_eq_true ⟨h, hf⟩⟩
  · exact ⟨by rw [keep_false hf]; exact if_neg fun h' => hf h'.2, by rw [ok_false hf]; exact decide_eq_false fun h' => hf h'.2⟩
theorem apply_none {t : List (List Int)} {x : List Int} (h : ¬ AppOk t x) : apply t x = [] := if_neg h
end Tw
theorem mk_zeros (n : Nat) (hn : n ≤ 1048576) (w : World) : (Instr.makeSlice 24 (.int .i64 (n : Int)) (.int .i64 (n : Int))).run Tryd.prog w = .ok (.slice (some ⟨w.heap.size, 0, none⟩) n n) (w.alloc (.cells (intCells (List.replicate n 0)).toArray 3)) := by
  have h := mk_ints (List.replicate n 0) n (by simp) hn w
  have e : filled (intCells (List.replicate n 0)) (Value.int .i64 0) 0 = (intCells (List.replicate n 0)).toArray := by
    rw [filled_zero, intCells_len]; simp [intCells]
  rw [e] at h
  exact h
theorem put_ints {l : List Int} {i : Nat} {v : Int} : (intCells l).toArray.setIfInBounds i (.int .i64 v) = (intCells (l.set i v)).toArray := by
  simp [intCells, List.map_set]
theorem cell_ints {w : World} {g : Nat} {l : List Int} {i : Nat} {v : Int} (h : Blk w g 3 (intCells l).toArray) (hv : l[i]? = some v) : w.cell? ⟨g, i, none⟩ = some (.int .i64 v) := by
  rw [h.cell i, List.getElem?_toArray, intCells_some hv]
set_option maxRecDepth 10000 in
set_option maxHeartbeats 2000000 in
theorem impl_ApplyTable (a : Option Addr) (c : Nat) (T : List (List Int)) (ax : Option Addr) (cx : Nat) (x : List Int) (w : World) (hE : Errs w) (ha : GridAt w a T) (hn : T.length ≤ 1048576) (hT : ∀ r ∈ T, r.length ≤ 1048576) (hx : RowAt w ax (intCells x)) (hlx : x.length ≤ 1048576) :
    Calls Tryd.prog 20 #[.slice a T.length c, .slice ax x.length cx] w fun e w' => Gives2 w (Tw.apply T x) (decide (Tw.AppOk T x)) e w' := by
  have hI := impl_isTable a c T w hE ha hn hT
  by_cases cT : Tw.IsT T
  · rw [decide_eq_true cT] at hI
    by_cases hl : x.length = T.length
    · have t1 : ((x.length : Int) != (T.length : Int)) = false := by simp [hl]
      have hA := fun W (hb : Below w.heap.size w W) => impl_areTooGreat ax cx x W (hE.keeps hb) (hx.below hb) (by omega)
      by_cases cX : Tw.Fits x
      · rw [decide_eq_true cX] at hA
        have hres := Tw.apply_keep ⟨cT, hl, cX⟩
        rw [hres.1, hres.2]
        have h6 := cT.1.2
        have Hl := Lib.hid hl; have FT := Lib.hid cT.2; have FX := Lib.hid cX
        have HI := Lib.hid hI; have HA := Lib.hid hA; have Ha := Lib.hid ha; have Rx := Lib.hid hx; have HE := Lib.hid hE
        have Hall := Lib.hid (Tw.appTo_all T x); have Hl0 := Lib.hid (Tw.appTo_zero T x)
        have Hal := Lib.hid (Tw.app_len T x)
        have hmk := fun W => mk_zeros T.length (by omega) W
        clear hI hA ha hx hE cT cX hres hl
        go_enter Tryd.func20, Tryd.ntmps20
        go_wp2_with fail
        refine HI.out.mono ?_
        rintro e w1 ⟨rfl, hb1⟩
        have Hb1 := Lib.hid hb1; clear hb1
        go_wp2_with fail
        refine (HA.out w1 Hb1.out).mono ?_
        rintro e w3 ⟨rfl, hb2⟩
        have Hb3 := Lib.hid (Hb1.out.trans (hb2.mono Hb1.out.size)); clear hb2
        obtain ⟨N, hN⟩ : ∃ N, w3.heap.size = N := ⟨_, rfl⟩
        have HNw := Lib.hid (show w.heap.size ≤ N by rw [← hN]; exact Hb3.out.size)
        have Hst0 := Lib.hid (show Blk (w3.alloc (.cells (intCells (List.replicate T.length 0)).toArray 3)) N 3 (intCells (Tw.appTo T x 0 0)).toArray by rw [← hN, Hl0.out]; exact Blk.new w3 _ _)
        have hmk3 := hmk w3
        rw [hN] at hmk3
        clear hN hmk
        go_wp2
        go_loopw [7, 8, 9, 29] (fun _ _ _ iv wr => ∃ i : Nat, i ≤ T.length ∧ iv = .int .i64 i ∧ Hid (Blk wr N 3 (intCells (Tw.appTo T x i 0)).toArray) ∧ Hid (Below w.heap.size w wr)) (fun _ _ _ iv _ => T.length - (intOf iv).toNat)
        case atStart => exact ⟨0, by omega, rfl, Hst0, Lib.hid (Hb3.out.alloc Hb3.out.size _)⟩
        case round =>
          obtain ⟨i, hi, rfl, hk, hb⟩ := hrel
          by_cases hlt : i < T.length
          · obtain ⟨r, hr⟩ := get_some hlt
            obtain ⟨b, o, ai, ci, eb, hbw, hcell0, hrow⟩ := Ha.out.get hr
            subst eb
            have hcell : wr.cell? ⟨b, o + i, none⟩ = some (.slice ai r.length ci) := by rw [hb.out.cell hbw]; exact hcell0
            obtain ⟨hrl, hrF⟩ := FT.out r (get_mem hr)
            have Hr := Lib.hid hr; have Hrow := Lib.hid hrow; have HrF := Lib.hid hrF
            rw [hrl, ← Hl.out] at hcell
            have Hrl := Lib.hid (show r.length = x.length by rw [hrl, Hl.out])
            clear hr hrow hrl hrF hcell0 hbw
            have i0 : (0 : Int) ≤ (i : Int) := by omega
            have i1 : (i : Int) < (T.length : Int) := by omega
            obtain ⟨wo, hwo⟩ : ∃ wo : World, wo = wr := ⟨_, rfl⟩
            subst hwo
            go_wp2
            go_loopw [9, 36] (fun _ jv wr => ∃ j : Nat, j ≤ x.length ∧ jv = .int .i64 j ∧ Hid (Blk wr N 3 (intCells (Tw.appTo T x i j)).toArray) ∧ Hid (Below w.heap.size w wr)) (fun _ jv _ => x.length - (intOf jv).toNat)
            case atStart => exact ⟨0, by omega, rfl, hk, hb⟩
            case round =>
              obtain ⟨j, hj, rfl, hk, hb⟩ := hrel
              by_cases hjt : j < x.length
              · obtain ⟨b1, o1, e1, _, hc1⟩ := intCells_get? (Hrow.out.below hb.out) (Tw.get?_nth (show j < r.length by rw [Hrl.out]; exact hjt))
                obtain ⟨b2, o2, e2, _, hc2⟩ := intCells_get? (Rx.out.below hb.out) (Tw.get?_nth hjt)
                subst e1; subst e2
                have hc3 := cell_ints hk.out (Tw.appTo_at (x := x) (j := j) Hr.out)
                have hfz := hk.out.frozen i
                have Hput := Lib.hid (Tw.appTo_put (x := x) (j := j) Hr.out)
                have hd := Tw.dotTo_bound HrF.out FX.out j
                have p1 := Tw.mul_abs (A := 1000) (B := 1000) (HrF.out.nth j) (FX.out.nth j)
                generalize Tw.dotTo r x j = S at *
                generalize Tw.nth r j = A at *
                generalize Tw.nth x j = B at *
                obtain ⟨P, hP⟩ : ∃ P, A * B = P := ⟨_, rfl⟩
                rw [hP] at p1 Hput
                have e1 : IntKind.i64.wrap (A * B) = P := by rw [hP]; exact wrap_small (by omega) (by omega)
                have e2 : IntKind.i64.wrap (S + P) = S + P := wrap_small (by omega) (by omega)
                have j0 : (0 : Int) ≤ (j : Int) := by omega
                have j1 : (j : Int) < (x.length : Int) := by omega
                clear hP hd p1
                go_wp2
                go_still_tail 15, (by kernel_rfl)
                change wpList _ _ _ _ _ wr.drew
                go_wp2
                go_roundw
                case rel =>
                  refine ⟨j + 1, by omega, by go_num, Lib.hid ?_, Lib.hid (Below.setCell (below_drewN hb.out 1) HNw.out _)⟩
                  have h := (hk.out.drewN 1).put i (.int .i64 (S + P))
                  rw [put_ints, Hput.out] at h; exact h
                case measure => simp [intOf]; omega
              · obtain rfl : j = x.length := by omega
                go_wp2
                go_roundw
                case rel => exact ⟨i + 1, by omega, by go_num, Lib.hid (by rw [← Tw.appTo_next Hr.out]; exact hk.out), hb⟩
                case measure => simp [intOf]; omega
          · obtain rfl : i = T.length := by omega
            rw [Hall.out] at hk
            have Hk := Lib.hid hk.out
            have Hrow := Lib.hid (show RowAt wr (some ⟨N, 0, none⟩) (intCells (Tw.app T x)) from (RowIn.of_blk Hk.out (Nat.zero_le _) Hk.out.lt).row)
            have hA := impl_areTooGreat (some ⟨N, 0, none⟩) T.length (Tw.app T x) wr (HE.out.keeps hb.out) Hrow.out (by rw [Hal.out]; omega)
            rw [Hal.out] at hA
            have HA := Lib.hid hA
            clear hA
            by_cases hF : Tw.Fits (Tw.app T x)
            · rw [decide_eq_true hF] at HA
              have HF := Lib.hid hF; clear hF
              go_wp2_with fail
              refine HA.out.mono ?_
              rintro e w5 ⟨rfl, hb5⟩
              have Hb5 := Lib.hid hb5; clear hb5
              go_wp2
              go_ret2
              rw [Tw.ok_true HF.out, Tw.keep_true HF.out]
              exact ⟨_, _, by rw [Hal.out]; rfl, by rw [Hal.out]; exact Nat.le_refl _, by unfold maxLen; omega, Fresh.of_blk (Hk.out.below Hb5.out Hk.out.lt) HNw.out, hb.out.trans (Hb5.out.mono hb.out.size)⟩
            · rw [decide_eq_false hF] at HA
              have HF := Lib.hid hF; clear hF
              go_wp2_with fail
              refine HA.out.mono ?_
              rintro e w5 ⟨rfl, hb5⟩
              have Hb5 := Lib.hid hb5; clear hb5
              go_wp2
              go_ret2
              rw [Tw.ok_false HF.out, Tw.keep_false HF.out]
              exact Gives2.none (hb.out.trans (Hb5.out.mono hb.out.size))
      · rw [decide_eq_false cX] at hA
        have hno : ¬ Tw.AppOk T x := fun h => cX h.1.2.2
        rw [Tw.apply_none hno, decide_eq_false hno]
        have HI := Lib.hid hI; have HA := Lib.hid hA
        clear hI hA ha hx hE cT cX hno hl
        go_enter Tryd.func20, Tryd.ntmps20
        go_wp2_with fail
        refine HI.out.mono ?_
        rintro e w1 ⟨rfl, hb1⟩
        have Hb1 := Lib.hid hb1; clear hb1
        go_wp2_with fail
        refine (HA.out w1 Hb1.out).mono ?_
        rintro e w3 ⟨rfl, hb2⟩
        have Hb3 := Lib.hid (Hb1.out.trans (hb2.mono Hb1.out.size)); clear hb2
        go_wp2
        go_ret2
        exact Gives2.none Hb3.out
    · have t1 : ((x.length : Int) != (T.length : Int)) = true := by simp; omega
      have hno : ¬ Tw.AppOk T x := fun h => hl h.1.2.1
      rw [Tw.apply_none hno, decide_eq_false hno]
      have HI := Lib.hid hI
      clear hI ha hx hE cT hno hl
      go_enter Tryd.func20, Tryd.ntmps20
      go_wp2_with fail
      refine HI.out.mono ?_
      rintro e w1 ⟨rfl, hb1⟩
      have Hb1 := Lib.hid hb1; clear hb1
      go_wp2
      go_ret2
      exact Gives2.none Hb1.out
  · rw [decide_eq_false cT] at hI
    have hno : ¬ Tw.AppOk T x := fun h => cT h.1.1
    rw [Tw.apply_none hno, decide_eq_false hno]
    have HI := Lib.hid hI
    clear hI ha hx hE cT hno
    go_enter Tryd.func20, Tryd.ntmps20
    go_wp2_with fail
    refine HI.out.mono ?_
    rintro e w1 ⟨rfl, hb1⟩
    have Hb1 := Lib.hid hb1; clear hb1
    go_wp2
    go_ret2
    exact Gives2.none Hb1.out
end Go.Proofs.YtamgimdjnmcpaaaDoor
