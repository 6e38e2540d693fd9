/-
  The walks of the model's l11Fits, IsClass, l11Form, FormOf, TwistClass and l11Unit.
-/
import Derived.Test.YtamgimdjnmcpaaaDoorBase
import Derived.Test.YtamgimdjnmcpaaaDoorSlice
import Derived.Test.YtamgimdjnmcpaaaDoorIntRow
import Derived.Test.YtamgimdjnmcpaaaDoorInts
import Derived.Test.YtamgimdjnmcpaaaDoorOwn
import Derived.Test.YtamgimdjnmcpaaaDoorAppend
import Derived.Test.YtamgimdjnmcpaaaDoorIsWord
import Derived.Test.YtamgimdjnmcpaaaDoorGrid
import Derived.Test.YtamgimdjnmcpaaaDoorGridRows
import Derived.Test.YtamgimdjnmcpaaaDoorRowI
import Derived.Test.YtamgimdjnmcpaaaDoorHead
import Derived.Test.YtamgimdjnmcpaaaDoorTw
import Derived.Test.YtamgimdjnmcpaaaDoorTwB
import Derived.Test.YtamgimdjnmcpaaaDoorTwC
import Derived.Deep.QuietTactic
import Derived.BigQuiet
import Derived.StillTailTactics
namespace Go.Proofs.YtamgimdjnmcpaaaDoor
open Go.RowKit

theorem Gives2.nilAt {w w' : World} {a : Option Addr} {b : Bool} (hb : Below w.heap.size w w') : Gives2 w [] b (.returned (.tuple #[.slice a 0 0, .bool b])) w' := ⟨_, _, rfl, Nat.le_refl _, Nat.zero_le _, Or.inl rfl, hb⟩
set_option maxRecDepth 10000 in
set_option maxHeartbeats 400000 in
theorem spec_l11Fits (a : Option Addr) (c : Nat) (l : List Int) (w : World) (ha : RowAt w a (intCells l)) (hl : l.length ≤ 1048576) :
    Calls Tryd.prog 56 #[.slice a l.length c] w fun e w' => e = .returned (.bool (decide (Tw.Fits l))) ∧ w' = w := by
  have Ha := Lib.hid ha
  clear ha
  go_enter Tryd.func56, Tryd.ntmps56
  go_wp2
  go_loopw [2, 3] (fun rv iv wr => rv = .bool false ∧ ∃ i : Nat, i ≤ l.length ∧ iv = .int .i64 i ∧ Hid (∀ j x, l[j]? = some x → j < i → -1000 ≤ x ∧ x ≤ 1000) ∧ wr = w) (fun _ iv _ => l.length - (intOf iv).toNat)
  case atStart => exact ⟨rfl, 0, by omega, rfl, Lib.hid (fun j x _ h => by omega), rfl⟩
  case round =>
    obtain ⟨rfl, i, hi, rfl, hall, hw⟩ := hrel
    rw [hw]; clear hw wr
    by_cases hlt : i < l.length
    · obtain ⟨b, o, eb, hbw, hcell⟩ := intCells_at Ha.out hlt
      subst eb
      have Hx : Hid (l[i]? = some l[i]) := Lib.hid (List.getElem?_eq_getElem hlt)
      generalize l[i] = x at *
      have i0 : (0 : Int) ≤ (i : Int) := by omega
      have i1 : (i : Int) < (l.length : Int) := by omega
      have hc := spec_l1In x (-1000) 1000 w
      by_cases hx : -1000 ≤ x ∧ x ≤ 1000
      · rw [decide_eq_true hx] at hc
        have Hc := Lib.hid hc; have Hxx := Lib.hid hx
        clear hc hx
        go_wp2_with fail
        refine Hc.out.mono ?_
        rintro e w1 ⟨rfl, hw⟩
        rw [hw]; clear hw w1
        go_wp2
        go_roundw
        case rel => exact ⟨rfl, i + 1, by omega, by go_num, Lib.hid (fun j y hy h => by
          rcases Nat.lt_or_ge j i with h' | h'
          · exact hall.out j y hy h'
          · obtain rfl : j = i := by omega
            rw [Hx.out] at hy
            cases hy; exact Hxx.out), by first | rfl | trivial⟩
        case measure => simp [intOf]; omega
      · rw [decide_eq_false hx] at hc
        have Hc := Lib.hid hc
        have Hno := Lib.hid (show decide (Tw.Fits l) = false from decide_eq_false fun h => hx (h x (List.mem_of_getElem? Hx.out)))
        clear hc hx
        go_wp2_with fail
        refine Hc.out.mono ?_
        rintro e w1 ⟨rfl, hw⟩
        rw [hw]; clear hw w1
        go_wp2
        go_ret
        exact ⟨by rw [Hno.out]; rfl, rfl⟩
    · obtain rfl : i = l.length := by omega
      have Hd := Lib.hid (show decide (Tw.Fits l) = true from decide_eq_true fun y hy => by
        obtain ⟨j, hj, rfl⟩ := List.mem_iff_getElem.1 hy
        exact hall.out j _ (List.getElem?_eq_getElem hj) hj)
      go_wp2
      go_ret
      exact ⟨by rw [Hd.out]; rfl, rfl⟩
set_option maxRecDepth 10000 in
set_option maxHeartbeats 400000 in
theorem spec_IsClass (g : Int) (a : Option Addr) (c : Nat) (l : List Int) (w : World) (ha : RowAt w a (intCells l)) (hl : l.length ≤ 1048576) :
    Calls Tryd.prog 33 #[.int .i64 g, .slice a l.length c] w fun e w' => e = .returned (.bool (decide (Tw.IsC g l))) ∧ w' = w := by
  have hC := spec_l1In g 1 3 w
  have hT := spec_l11Fits a c l w ha hl
  by_cases hg : 1 ≤ g ∧ g ≤ 3
  · rw [decide_eq_true hg] at hC
    have e1 : IntKind.i64.wrap (2 * g) = 2 * g := wrap_small (by omega) (by omega)
    by_cases hl2 : (l.length : Int) = 2 * g
    · have hd : decide (Tw.IsC g l) = decide (Tw.Fits l) := decide_eq_decide.2 ⟨fun h => h.2.2, fun h => ⟨hg, hl2, h⟩⟩
      rw [hd]
      have ht : ((l.length : Int) == 2 * g) = true := beq_iff_eq.2 hl2
      generalize decide (Tw.Fits l) = r at *
      have HC := Lib.hid hC; have HT := Lib.hid hT
      clear hC hT hd hg hl2 ha
      go_enter Tryd.func33, Tryd.ntmps33
      go_wp2_with fail
      refine HC.out.mono ?_
      rintro e w1 ⟨rfl, hw⟩
      rw [hw]; clear hw w1
      go_wp2_with fail
      refine HT.out.mono ?_
      rintro e w1 ⟨rfl, hw⟩
      rw [hw]; clear hw w1
      go_wp2
      go_ret
      exact ⟨by simp, rfl⟩
    · have hd : decide (Tw.IsC g l) = false := decide_eq_false fun h => hl2 h.2.1
      rw [hd]
      have ht : ((l.length : Int) == 2 * g) = false := beq_eq_false_iff_ne.2 hl2
      have HC := Lib.hid hC
      clear hC hT hd hg hl2 ha
      go_enter Tryd.func33, Tryd.ntmps33
      go_wp2_with fail
      refine HC.out.mono ?_
      rintro e w1 ⟨rfl, hw⟩
      rw [hw]; clear hw w1
      go_wp2
      go_ret
      exact ⟨rfl, rfl⟩
  · rw [decide_eq_false hg] at hC
    have hd : decide (Tw.IsC g l) = false := decide_eq_false fun h => hg h.1
    rw [hd]
    have HC := Lib.hid hC
    clear hC hT hd hg ha
    go_enter Tryd.func33, Tryd.ntmps33
    go_wp2_with fail
    refine HC.out.mono ?_
    rintro e w1 ⟨rfl, hw⟩
    rw [hw]; clear hw w1
    go_wp2
    go_ret
    exact ⟨rfl, rfl⟩
set_option maxRecDepth 10000 in
set_option maxHeartbeats 2000000 in
theorem spec_l11Form (ax : Option Addr) (cx : Nat) (x : List Int) (ay : Option Addr) (cy : Nat) (y : List Int) (n : Nat) (w : World) (hx : RowAt w ax (intCells x)) (hy : RowAt w ay (intCells y)) (fx : Tw.Fits x) (fy : Tw.Fits y) (hlx : x.length = 2 * n) (hly : y.length = 2 * n) (n3 : n ≤ 3) :
    Calls Tryd.prog 55 #[.slice ax x.length cx, .slice ay y.length cy] w fun e w' => e = .returned (.int .i64 (Tw.form x y)) ∧ Below w.heap.size w w' := by
  have Hxl := Lib.hid hlx
  have Hyl := Lib.hid hly
  have Hf := Lib.hid (show Tw.form x y = Tw.formTo x y n by unfold Tw.form; rw [show x.length / 2 = n by omega])
  have Hbd := Lib.hid (Tw.formTo_bound fx fy)
  have Fx := Lib.hid fx; have Fy := Lib.hid fy
  have Rx := Lib.hid hx; have Ry := Lib.hid hy
  clear hx hy fx fy hlx hly
  go_enter Tryd.func55, Tryd.ntmps55
  go_wp2
  go_loopw [5, 6] (fun sv kv wr => ∃ i : Nat, i ≤ n ∧ kv = .int .i64 (2 * (i : Int)) ∧ sv = .int .i64 (Tw.formTo x y i) ∧ Hid (Below w.heap.size w wr)) (fun _ kv _ => 2 * n - (intOf kv).toNat)
  case atStart => exact ⟨0, by omega, rfl, rfl, Lib.hid (Below.refl _ _)⟩
  case round =>
    obtain ⟨i, hi, rfl, rfl, hb⟩ := hrel
    have w2 : IntKind.i64.wrap (2 * (i : Int) + 1) = 2 * (i : Int) + 1 := wrap_small (by omega) (by omega)
    by_cases hlt : i < n
    · obtain ⟨b, o, eb, hbw, hc1⟩ := intCells_get? (Rx.out.below hb.out) (Tw.get?_nth (show 2 * i < x.length by rw [Hxl.out]; omega))
      obtain ⟨b', o', eb', hbw', hc4⟩ := intCells_get? (Ry.out.below hb.out) (Tw.get?_nth (show 2 * i < y.length by rw [Hyl.out]; omega))
      obtain ⟨b2, o2, eb2, _, hc3⟩ := intCells_get? (Rx.out.below hb.out) (Tw.get?_nth (show 2 * i + 1 < x.length by rw [Hxl.out]; omega))
      obtain ⟨b3, o3, eb3, _, hc2⟩ := intCells_get? (Ry.out.below hb.out) (Tw.get?_nth (show 2 * i + 1 < y.length by rw [Hyl.out]; omega))
      subst eb; cases eb2; subst eb'; cases eb3
      have f1 := Fx.out.nth (2 * i); have f2 := Fy.out.nth (2 * i + 1); have f3 := Fx.out.nth (2 * i + 1); have f4 := Fy.out.nth (2 * i)
      have p1 := Tw.mul_abs (A := 1000) (B := 1000) f1 f2
      have p2 := Tw.mul_abs (A := 1000) (B := 1000) f3 f4
      have hbd := Hbd.out i
      have hst : Tw.formTo x y (i + 1) = Tw.formTo x y i + (Tw.nth x (2 * i) * Tw.nth y (2 * i + 1) - Tw.nth x (2 * i + 1) * Tw.nth y (2 * i)) := rfl
      generalize Tw.nth x (2 * i) = A at *
      generalize Tw.nth y (2 * i + 1) = B at *
      generalize Tw.nth x (2 * i + 1) = C at *
      generalize Tw.nth y (2 * i) = D at *
      obtain ⟨P, hP⟩ : ∃ P, A * B = P := ⟨_, rfl⟩
      obtain ⟨Q, hQ⟩ : ∃ Q, C * D = Q := ⟨_, rfl⟩
      rw [hP] at p1 hst; rw [hQ] at p2 hst
      have e1 : IntKind.i64.wrap (A * B) = P := by rw [hP]; exact wrap_small (by omega) (by omega)
      have e2 : IntKind.i64.wrap (C * D) = Q := by rw [hQ]; exact wrap_small (by omega) (by omega)
      obtain ⟨S, hS⟩ : ∃ S, Tw.formTo x y i = S := ⟨_, rfl⟩
      rw [hS] at hst hbd ⊢
      have e3 : IntKind.i64.wrap (S + P) = S + P := wrap_small (by omega) (by omega)
      have e4 : IntKind.i64.wrap (S + P - Q) = S + P - Q := wrap_small (by omega) (by omega)
      have e5 : IntKind.i64.wrap (2 * (i : Int) + 2) = 2 * (i : Int) + 2 := wrap_small (by omega) (by omega)
      have i0 : (0 : Int) ≤ 2 * (i : Int) := by omega
      have i1 : 2 * (i : Int) < (x.length : Int) := by have := Hxl.out; omega
      have i2 : 2 * (i : Int) < (y.length : Int) := by have := Hyl.out; omega
      have i3 : (0 : Int) ≤ 2 * (i : Int) + 1 := by omega
      have i4 : 2 * (i : Int) + 1 < (x.length : Int) := by have := Hxl.out; omega
      have i5 : 2 * (i : Int) + 1 < (y.length : Int) := by have := Hyl.out; omega
      have t1 : (2 * (i : Int)).toNat = 2 * i := by omega
      have t2 : (2 * (i : Int) + 1).toNat = 2 * i + 1 := by omega
      have Hst := Lib.hid (show Tw.formTo x y (i + 1) = S + P - Q by rw [hst]; omega)
      clear hst hP hQ hS p1 p2 hbd f1 f2 f3 f4
      go_wp2
      go_quiet (fail)
      all_goals go_wp2
      all_goals
        go_roundw
        case rel => exact ⟨i + 1, by omega, by simp; omega, by rw [Hst.out], Lib.hid (below_drewN hb.out _)⟩
        case measure => simp [intOf]; omega
    · obtain rfl : i = n := by omega
      have i4 : ¬ 2 * (i : Int) + 1 < (x.length : Int) := by have := Hxl.out; omega
      go_wp2
      go_ret
      exact ⟨by rw [Hf.out]; rfl, hb.out⟩
set_option maxRecDepth 10000 in
set_option maxHeartbeats 1000000 in
theorem spec_FormOf (g : Int) (ax : Option Addr) (cx : Nat) (x : List Int) (ay : Option Addr) (cy : Nat) (y : List Int) (w : World) (hx : RowAt w ax (intCells x)) (hlx : x.length ≤ 1048576) (hy : RowAt w ay (intCells y)) (hly : y.length ≤ 1048576) :
    Calls Tryd.prog 31 #[.int .i64 g, .slice ax x.length cx, .slice ay y.length cy] w fun e w' => e = .returned (.int .i64 (Tw.formOf g x y)) ∧ Below w.heap.size w w' := by
  have hX := spec_IsClass g ax cx x w hx hlx
  by_cases cX : Tw.IsC g x
  · rw [decide_eq_true cX] at hX
    have hY := spec_IsClass g ay cy y w hy hly
    by_cases cY : Tw.IsC g y
    · rw [decide_eq_true cY] at hY
      rw [Tw.formOf_of cX cY]
      have hxl := cX.len; have hyl := cY.len; have hg := cX.1
      have HF := Lib.hid (spec_l11Form ax cx x ay cy y g.toNat w hx hy cX.2.2 cY.2.2 hxl.2.2.1 hyl.2.2.1 (by omega))
      generalize Tw.form x y = F at *
      have HX := Lib.hid hX; have HY := Lib.hid hY
      clear hX hY hx hy cX cY hg hxl hyl
      go_enter Tryd.func31, Tryd.ntmps31
      go_wp2_with fail
      refine HX.out.mono ?_
      rintro e w1 ⟨rfl, hw⟩
      rw [hw]; clear hw w1
      go_wp2_with fail
      refine HY.out.mono ?_
      rintro e w1 ⟨rfl, hw⟩
      rw [hw]; clear hw w1
      go_wp2_with fail
      refine HF.out.mono ?_
      rintro e w1 ⟨rfl, hb1⟩
      have Hb1 := Lib.hid hb1; clear hb1
      go_wp2
      go_ret
      exact ⟨rfl, Hb1.out⟩
    · rw [decide_eq_false cY] at hY
      rw [show Tw.formOf g x y = 0 from if_neg fun h => cY h.2]
      have HX := Lib.hid hX; have HY := Lib.hid hY
      clear hX hY hx hy cX cY
      go_enter Tryd.func31, Tryd.ntmps31
      go_wp2_with fail
      refine HX.out.mono ?_
      rintro e w1 ⟨rfl, hw⟩
      rw [hw]; clear hw w1
      go_wp2_with fail
      refine HY.out.mono ?_
      rintro e w1 ⟨rfl, hw⟩
      rw [hw]; clear hw w1
      go_wp2
      go_ret
      exact ⟨rfl, Below.refl _ _⟩
  · rw [decide_eq_false cX] at hX
    rw [show Tw.formOf g x y = 0 from if_neg fun h => cX h.1]
    have HX := Lib.hid hX
    clear hX hx hy cX
    go_enter Tryd.func31, Tryd.ntmps31
    go_wp2_with fail
    refine HX.out.mono ?_
    rintro e w1 ⟨rfl, hw⟩
    rw [hw]; clear hw w1
    go_wp2
    go_ret
    exact ⟨rfl, Below.refl _ _⟩
set_option maxRecDepth 10000 in
set_option maxHeartbeats 2000000 in
theorem spec_TwistClass (g : Int) (ac : Option Addr) (cc : Nat) (c : List Int) (ax : Option Addr) (cx : Nat) (x : List Int) (k : Int) (w : World) (hc : RowAt w ac (intCells c)) (hlc : c.length ≤ 1048576) (hx : RowAt w ax (intCells x)) (hlx : x.length ≤ 1048576) :
    Calls Tryd.prog 16 #[.int .i64 g, .slice ac c.length cc, .slice ax x.length cx, .int .i64 k] w fun e w' => Gives2 w (Tw.twist g c x k) (decide (Tw.TwOk g c x k)) e w' := by
  have hC := spec_IsClass g ac cc c w hc hlc
  by_cases cC : Tw.IsC g c
  · rw [decide_eq_true cC] at hC
    have hX := spec_IsClass g ax cx x w hx hlx
    by_cases cX : Tw.IsC g x
    · rw [decide_eq_true cX] at hX
      have hK := spec_l1In k (-20) 20 w
      by_cases hk : -20 ≤ k ∧ k ≤ 20
      · rw [decide_eq_true hk] at hK
        obtain ⟨i0, hi0, hz0, hz1, hz2⟩ := info_int_parts
        have Hi0 := Lib.hid hi0; have Hz0 := Lib.hid hz0; have Hz1 := Lib.hid hz1; have Hz2 := Lib.hid hz2
        have hxl := cX.len; have hcl := cC.len
        have hF := spec_l11Form ac cc c ax cx x g.toNat w hc hx cC.2.2 cX.2.2 hcl.2.2.1 hxl.2.2.1 (by have := cX.1; omega)
        have hbd := Tw.form_bound cC cX
        have hall := Tw.tw_bound cC cX hk
        obtain ⟨T, hT⟩ : ∃ T, Tw.tw c x (k * Tw.form c x) = T := ⟨_, rfl⟩
        have hTn : ∀ (i : Nat), i < x.length → T[i]? = some (Tw.nth x i + k * Tw.form c x * Tw.nth c i) := fun (i : Nat) (hi : i < x.length) => by
          rw [← hT]; exact (Tw.get?_nth (x := Tw.tw c x (k * Tw.form c x)) (i := i) (by rw [Tw.tw_len]; exact hi)).trans (congrArg some (Tw.tw_nth (c := c) (n := k * Tw.form c x) hi))
        have hTl : T.length = x.length := by rw [← hT]; exact Tw.tw_len c x (k * Tw.form c x)
        have hres := Tw.twist_keep cC cX hk
        rw [hT] at hres
        rw [hres.1, hres.2]
        have hlcx : c.length = x.length := by omega
        have hx6 := hxl.1
        clear hT hres
        obtain ⟨F, hF0⟩ : ∃ F, Tw.form c x = F := ⟨_, rfl⟩
        simp only [hF0] at hF hbd hall hTn
        obtain ⟨M, hM⟩ : ∃ M, k * F = M := ⟨_, rfl⟩
        simp only [hM] at hall hTn
        have eM : IntKind.i64.wrap (k * F) = M := by rw [hM]; have := (hall 0).1; exact wrap_small (by omega) (by omega)
        have Hx := Lib.hid hX; have HC := Lib.hid hC; have HF := Lib.hid hF; have HK := Lib.hid hK; have Hall := Lib.hid hall; have HTn := Lib.hid hTn; have HTl := Lib.hid hTl; have Rc := Lib.hid hc; have Rx := Lib.hid hx; have Hl := Lib.hid hlcx
        have fx := Lib.hid cX.2.2; have fc := Lib.hid cC.2.2
        clear hC hX hF hall hTn hTl hc hx hlcx hxl hcl cC cX hM hF0 hbd hK hk hi0 hz0 hz1 hz2
        go_enter Tryd.func16, Tryd.ntmps16
        go_wp2_with fail
        refine HC.out.mono ?_
        rintro e w1 ⟨rfl, hw⟩
        rw [hw]; clear hw w1
        go_wp2_with fail
        refine Hx.out.mono ?_
        rintro e w1 ⟨rfl, hw⟩
        rw [hw]; clear hw w1
        go_wp2_with fail
        refine HK.out.mono ?_
        rintro e w1 ⟨rfl, hw⟩
        rw [hw]; clear hw w1
        go_wp2_with fail
        refine HF.out.mono ?_
        rintro e w3 ⟨rfl, hb3⟩
        have R0 := Lib.hid (RowI.made hb3 hb3.size)
        clear hb3
        go_wp2
        go_loopw [11, 12] (fun ov iv wr => ∃ i : Nat, i ≤ x.length ∧ iv = .int .i64 i ∧ Hid (RowI w w.heap.size wr ov (T.take i))) (fun _ iv _ => x.length - (intOf iv).toNat)
        case atStart => exact ⟨0, by omega, rfl, R0⟩
        case round =>
          obtain ⟨i, hi, rfl, hR⟩ := hrel
          have hb := hR.out.2
          have htl : (T.take i).length = i := by rw [List.length_take, HTl.out]; omega
          by_cases hlt : i < x.length
          · obtain ⟨b, o, eb, hbw, hc1⟩ := intCells_get? (Rx.out.below (Below.drew hb)) (Tw.get?_nth hlt)
            obtain ⟨b', o', eb', hbw', hc2⟩ := intCells_get? (Rc.out.below (Below.drew hb)) (Tw.get?_nth (show i < c.length by rw [Hl.out]; exact hlt))
            subst eb; subst eb'
            have htk : T.take (i + 1) = T.take i ++ [Tw.nth x i + M * Tw.nth c i] := by rw [List.take_add_one, HTn.out i hlt]; rfl
            have hbd := (Hall.out i).2
            have f1 := fx.out.nth i; have f2 := fc.out.nth i
            generalize Tw.nth x i = A at *
            generalize Tw.nth c i = B at *
            obtain ⟨P, hP⟩ : ∃ P, M * B = P := ⟨_, rfl⟩
            rw [hP] at hbd htk
            have e1 : IntKind.i64.wrap (M * B) = P := by rw [hP]; exact wrap_small (by omega) (by omega)
            have e2 : IntKind.i64.wrap (A + P) = A + P := wrap_small (by omega) (by omega)
            have q0 : (0 : Int) ≤ (i : Int) := by omega
            have q1 : (i : Int) < (x.length : Int) := by omega
            have q2 : (i : Int) < (c.length : Int) := by have := Hl.out; omega
            have hRd : RowI w w.heap.size wr.drew _ (T.take i) := ⟨own_drewN hR.out.1 1, Below.drew hb⟩
            have hown := hRd.1
            rw [htl] at hown
            have hN : w.heap.size ≤ wr.drew.heap.size := hb.size
            obtain ⟨ova, ovc, hov⟩ := own_len hown
            subst hov
            have Hmore := Lib.hid (fun (w3 : World) (v3 : Value) (k1 : w3.ownsRow w.heap.size 3 1 v3 ((T.take i).length + 1) (intCells (T.take i) ++ [.int .i64 (A + P)])) (k2 : (wr.drew.alloc (.cells #[.int .i64 (A + P)] 3)).grownBy w3 (Value.slice ova i ovc).ownBlock) => hRd.more hN k1 k2)
            rw [htl] at Hmore
            have Hown := Lib.hid hown; have Htk := Lib.hid htk
            have hm1 : i + 1 ≤ maxLen := by unfold maxLen; omega
            have hm2 : (i + 1) * 8 ≤ 140737488355328 := by omega
            clear hP hbd f1 f2 hb htl hRd hown htk hR
            go_wp2
            refine wp_region_free 15 (by kernel_rfl) rfl ?_
            generalize wr.drew = W at *
            refine any_take (i := 0) (v := ?_) rfl (by kernel_rfl) (fun _ _ _ h => h) rfl ?_ ?_
            rotate_left; · (intro w'; go_simp; try with_reducible rfl)
            try simp only [Act.put, List.setIfInBounds_toArray, List.set_cons_zero, List.set_cons_succ]
            refine any_head 12 11 3 (fun w' => w'.cell? ⟨b, o + i, none⟩ = some (.int .i64 A) ∧ w'.cell? ⟨b', o' + i, none⟩ = some (.int .i64 B)) rfl rfl ⟨hc1, hc2⟩ (fun hS => ?_)
            refine HdAny.take (i := 1) (v := ?_) rfl (by kernel_rfl) (fun _ _ _ h => h) rfl ?_ hS ?_
            rotate_left; · (intro w' hSw; go_split_ands; go_simp; try with_reducible rfl)
            try simp only [Act.put, List.setIfInBounds_toArray, List.set_cons_zero, List.set_cons_succ]
            refine HdAny.take (i := 2) (v := ?_) rfl (by kernel_rfl) (fun _ _ _ h => h) rfl ?_ hS ?_
            rotate_left; · (intro w' hSw; go_split_ands; go_simp; try with_reducible rfl)
            try simp only [Act.put, List.setIfInBounds_toArray, List.set_cons_zero, List.set_cons_succ]
            refine HdAny.take (i := 3) (v := ?_) rfl (by kernel_rfl) (fun _ _ _ h => h) rfl ?_ hS ?_
            rotate_left; · (intro w' hSw; go_split_ands; go_simp; try with_reducible rfl)
            try simp only [Act.put, List.setIfInBounds_toArray, List.set_cons_zero, List.set_cons_succ]
            refine HdAny.take (i := 4) (v := ?_) rfl (by kernel_rfl) (fun _ _ _ h => h) rfl ?_ hS ?_
            rotate_left; · (intro w' hSw; go_split_ands; go_simp; try with_reducible rfl)
            try simp only [Act.put, List.setIfInBounds_toArray, List.set_cons_zero, List.set_cons_succ]
            refine HdAny.take (i := 5) (v := ?_) rfl (by kernel_rfl) (fun _ _ _ h => h) rfl ?_ hS ?_
            rotate_left; · (intro w' hSw; go_split_ands; go_simp; try with_reducible rfl)
            try simp only [Act.put, List.setIfInBounds_toArray, List.set_cons_zero, List.set_cons_succ]
            refine HdAny.take (i := 6) (v := ?_) rfl (by kernel_rfl) (fun _ _ _ h => h) rfl ?_ hS ?_
            rotate_left; · (intro w' hSw; go_split_ands; go_simp; try with_reducible rfl)
            try simp only [Act.put, List.setIfInBounds_toArray, List.set_cons_zero, List.set_cons_succ]
            refine HdAny.take (i := 7) (v := ?_) rfl (by kernel_rfl) (fun _ _ _ h => h) rfl ?_ hS ?_
            rotate_left; · (intro w' hSw; go_split_ands; go_simp; try with_reducible rfl)
            try simp only [Act.put, List.setIfInBounds_toArray, List.set_cons_zero, List.set_cons_succ]
            refine HdAny.take (i := 8) (v := ?_) rfl (by kernel_rfl) (fun _ _ _ h => h) rfl ?_ hS ?_
            rotate_left; · (intro w' hSw; go_split_ands; go_simp; try with_reducible rfl)
            try simp only [Act.put, List.setIfInBounds_toArray, List.set_cons_zero, List.set_cons_succ]
            refine HdAny.take (i := 9) (v := ?_) rfl (by kernel_rfl) (fun _ _ _ h => h) rfl ?_ hS ?_
            rotate_left; · (intro w' hSw; go_split_ands; go_simp; try with_reducible rfl)
            try simp only [Act.put, List.setIfInBounds_toArray, List.set_cons_zero, List.set_cons_succ]
            refine HdAny.take (i := 10) (v := ?_) rfl (by kernel_rfl) (fun _ _ _ h => h) rfl ?_ hS ?_
            rotate_left; · (intro w' hSw; go_split_ands; go_simp; try with_reducible rfl)
            try simp only [Act.put, List.setIfInBounds_toArray, List.set_cons_zero, List.set_cons_succ]
            refine HdAny.take (i := 11) (v := ?_) rfl (by kernel_rfl) (fun _ _ _ h => h) rfl ?_ hS ?_
            rotate_left; · (intro w' hSw; go_split_ands; go_simp; try with_reducible rfl)
            try simp only [Act.put, List.setIfInBounds_toArray, List.set_cons_zero, List.set_cons_succ]
            refine HdAny.done (by kernel_rfl) ?_
            simp only [List.drop_succ_cons, List.drop_zero]
            go_wp2_with (at_builtin; refine append_one rfl (.tmp 41) (.tmp 53) 24 rfl w.heap.size 3 i0 _ 8 Tryd.underlying24 Hi0.out Hz0.out Hz1.out Hz2.out (by rfl) _ _ _ rfl Hown.out (by rfl) _ rfl hm1 hm2 hN ?_; intro v1 w5 hown5 hg5 _; have Hown5 := Lib.hid hown5; have Hg5 := Lib.hid hg5; clear hown5 hg5)
            go_roundw
            case rel => exact ⟨i + 1, by omega, by go_num, Lib.hid (by rw [Htk.out]; exact Hmore.out w5 v1 Hown5.out Hg5.out)⟩
            case measure => simp [intOf]; omega
          · obtain rfl : i = x.length := by omega
            have htk : T.take x.length = T := List.take_of_length_le (by rw [HTl.out]; exact Nat.le_refl _)
            rw [htk] at hR
            have hG := hR.out.gives
            obtain ⟨ga, gc, hv, hrow, hbb⟩ := hG.form
            rw [HTl.out] at hv
            subst hv
            have hA := spec_l11Fits ga gc T wr hrow (by rw [HTl.out]; omega)
            rw [HTl.out] at hA
            have HA := Lib.hid hA; have HG := Lib.hid hG; have Hbb := Lib.hid hbb
            clear hA hG hrow hbb htk
            by_cases hFt : Tw.Fits T
            · rw [decide_eq_true hFt] at HA
              have HFt := Lib.hid hFt; clear hFt
              go_wp2_with fail
              refine HA.out.mono ?_
              rintro e w5 ⟨rfl, hw⟩
              rw [hw]; clear hw w5
              go_wp2
              go_ret2
              rw [Tw.ok_true HFt.out, Tw.keep_true HFt.out]
              exact HG.out.with
            · rw [decide_eq_false hFt] at HA
              have HFt := Lib.hid hFt; clear hFt
              go_wp2_with fail
              refine HA.out.mono ?_
              rintro e w5 ⟨rfl, hw⟩
              rw [hw]; clear hw w5
              go_wp2
              go_ret2
              rw [Tw.ok_false HFt.out, Tw.keep_false HFt.out]
              exact Gives2.nilAt (Hbb.out.alloc Hbb.out.size _)
      · rw [decide_eq_false hk] at hK
        have hno : ¬ Tw.TwOk g c x k := fun h => hk h.2.1
        rw [Tw.twist_none hno, decide_eq_false hno]
        have Hx := Lib.hid hX; have HC := Lib.hid hC; have HK := Lib.hid hK
        clear hC hX hno cC cX hc hx hK hk
        go_enter Tryd.func16, Tryd.ntmps16
        go_wp2_with fail
        refine HC.out.mono ?_
        rintro e w1 ⟨rfl, hw⟩
        rw [hw]; clear hw w1
        go_wp2_with fail
        refine Hx.out.mono ?_
        rintro e w1 ⟨rfl, hw⟩
        rw [hw]; clear hw w1
        go_wp2_with fail
        refine HK.out.mono ?_
        rintro e w1 ⟨rfl, hw⟩
        rw [hw]; clear hw w1
        go_wp2
        go_ret2
        exact Gives2.nilAt ((Below.refl _ _).alloc (Nat.le_refl _) _)
    · rw [decide_eq_false cX] at hX
      have hno : ¬ Tw.TwOk g c x k := fun h => cX h.1.2
      rw [Tw.twist_none hno, decide_eq_false hno]
      have Hx := Lib.hid hX; have HC := Lib.hid hC
      clear hC hX hno cC cX hc hx
      go_enter Tryd.func16, Tryd.ntmps16
      go_wp2_with fail
      refine HC.out.mono ?_
      rintro e w1 ⟨rfl, hw⟩
      rw [hw]; clear hw w1
      go_wp2_with fail
      refine Hx.out.mono ?_
      rintro e w1 ⟨rfl, hw⟩
      rw [hw]; clear hw w1
      go_wp2
      go_ret2
      exact Gives2.nilAt ((Below.refl _ _).alloc (Nat.le_refl _) _)
  · rw [decide_eq_false cC] at hC
    have hno : ¬ Tw.TwOk g c x k := fun h => cC h.1.1
    rw [Tw.twist_none hno, decide_eq_false hno]
    have HC := Lib.hid hC
    clear hC hno cC hc hx
    go_enter Tryd.func16, Tryd.ntmps16
    go_wp2_with fail
    refine HC.out.mono ?_
    rintro e w1 ⟨rfl, hw⟩
    rw [hw]; clear hw w1
    go_wp2
    go_ret2
    exact Gives2.nilAt ((Below.refl _ _).alloc (Nat.le_refl _) _)
set_option maxRecDepth 10000 in
set_option maxHeartbeats 400000 in
theorem spec_l11Unit (n j : Nat) (w : World) (hn : n ≤ 1000) (hj : j < n) :
    Calls Tryd.prog 60 #[.int .i64 (n : Int), .int .i64 (j : Int)] w fun e w' => Gives w (Tw.unit n j) e w' := by
  have hmk := fun W => mk_zeros n (by omega) W
  have hbA : Below w.heap.size w (w.alloc (.cells ((intCells (List.replicate n 0)).set j (.int .i64 1)).toArray 3)) := (Below.refl _ _).alloc (Nat.le_refl _) _
  have hset : (intCells (List.replicate n 0)).set j (.int .i64 1) = intCells (Tw.unit n j) := by simp [intCells, Tw.unit, List.map_set]
  have hk8 : Blk (w.alloc (.cells ((intCells (List.replicate n 0)).set j (.int .i64 1)).toArray 3)) w.heap.size 3 (intCells (Tw.unit n j)).toArray := by rw [hset]; exact Blk.new w _ _
  have hk0 : Blk (w.alloc (.cells (intCells (List.replicate n 0)).toArray 3)) w.heap.size 3 (intCells (List.replicate n 0)).toArray := Blk.new w _ _
  have hc0 := cell_ints hk0 (show (List.replicate n (0 : Int))[j]? = some 0 by rw [List.getElem?_replicate, if_pos hj])
  have hf0 := hk0.frozen j
  have Hg := Lib.hid (show Gives w (Tw.unit n j) (.returned (.slice (some ⟨w.heap.size, 0, none⟩) n n)) (w.alloc (.cells ((intCells (List.replicate n 0)).set j (.int .i64 1)).toArray 3)) from ⟨_, n, by rw [Tw.unit_len], by rw [Tw.unit_len]; exact Nat.le_refl _, by unfold maxLen; omega, Fresh.of_blk hk8 (Nat.le_refl _), hbA⟩)
  have i0 : (0 : Int) ≤ (j : Int) := by omega
  have i1 : (j : Int) < (n : Int) := by omega
  clear hbA hset hk8 hk0
  go_enter Tryd.func60, Tryd.ntmps60
  go_wp2
  go_ret
  exact Hg.out
end Go.Proofs.YtamgimdjnmcpaaaDoor
