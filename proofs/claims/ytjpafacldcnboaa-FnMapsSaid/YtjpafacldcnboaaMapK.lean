/-
  The walk of the model's DropEdge.
-/
import Derived.Test.YtjpafacldcnboaaBase
import Derived.Test.YtjpafacldcnboaaSlice
import Derived.Test.YtjpafacldcnboaaInts
import Derived.Test.YtjpafacldcnboaaGrid
import Derived.Test.YtjpafacldcnboaaOwn
import Derived.Test.YtjpafacldcnboaaWord
import Derived.Test.YtjpafacldcnboaaIsWord
import Derived.Test.YtjpafacldcnboaaClass
import Derived.Test.YtjpafacldcnboaaLab
import Derived.Test.YtjpafacldcnboaaTopo
import Derived.Test.YtjpafacldcnboaaMap
import Derived.Test.YtjpafacldcnboaaMapTopo
import Derived.Test.YtjpafacldcnboaaMapTopo2
import Derived.Test.YtjpafacldcnboaaMapTopo3
import Derived.Test.YtjpafacldcnboaaMapA
import Derived.Test.YtjpafacldcnboaaMapB
import Derived.Test.YtjpafacldcnboaaMapC
import Derived.Test.YtjpafacldcnboaaMapI
import Derived.Deep.QuietTactic
import Derived.BigQuiet
namespace Go.Proofs.Ytjpafacldcnboaa
open Go.RowKit

namespace Mp
/-- Where the walk past an edge leads: at most two darts are passed. -/
theorem skip_chain {l : List Int} {e d : Nat} (h : IsP l) (hd : d < l.length) (hde : d / 2 ≠ e) (hx : 2 * e + 1 < l.length) :
    ∃ (Y : Nat → Nat) (J : Nat) (mu : Nat → Nat), Y 0 = at_ l d ∧ (∀ j, j < J → Y j / 2 = e ∧ at_ l (Y j) = Y (j + 1) ∧ Y j < l.length) ∧ Y J / 2 ≠ e ∧ Y J = skip l e (at_ l d) ∧ Y J < l.length ∧ (∀ j, j < J → mu (Y (j + 1)) < mu (Y j)) := by
  have hp := per_at h
  have l0 := hp.lt d hd
  by_cases c0 : at_ l d / 2 = e
  · have l1 := hp.lt _ l0
    have n1 : at_ l (at_ l d) ≠ at_ l d := fun hh => hde (by have := hp.inj _ _ l0 hd hh; rw [← this]; exact c0)
    by_cases c1 : at_ l (at_ l d) / 2 = e
    · have l2 := hp.lt _ l1
      have n2 : at_ l (at_ l (at_ l d)) ≠ at_ l (at_ l d) := fun hh => n1 (hp.inj _ _ l1 l0 hh)
      have n3 : at_ l (at_ l (at_ l d)) ≠ at_ l d := fun hh => hde (by have := hp.inj _ _ l1 hd hh; rw [← this]; exact c1)
      have c2 : at_ l (at_ l (at_ l d)) / 2 ≠ e := fun c2 => by omega
      refine ⟨fun j => if j = 0 then at_ l d else if j = 1 then at_ l (at_ l d) else at_ l (at_ l (at_ l d)), 2, fun v => if v = at_ l d then 2 else if v = at_ l (at_ l d) then 1 else 0, rfl, fun j hj => ?_, c2, ?_, l2, fun j hj => ?_⟩
      · have : j = 0 ∨ j = 1 := by omega
        rcases this with rfl | rfl
        · exact ⟨c0, rfl, l0⟩
        · exact ⟨c1, rfl, l1⟩
      · unfold skip; rw [if_pos c0, if_pos c1]; rfl
      · have : j = 0 ∨ j = 1 := by omega
        rcases this with rfl | rfl
        · simp [n1]
        · simp [n1, n2, n3]
    · refine ⟨fun j => if j = 0 then at_ l d else at_ l (at_ l d), 1, fun v => if v = at_ l d then 1 else 0, rfl, fun j hj => ?_, c1, ?_, l1, fun j hj => ?_⟩
      · obtain rfl : j = 0 := by omega
        exact ⟨c0, rfl, l0⟩
      · unfold skip; rw [if_pos c0, if_neg c1]; rfl
      · obtain rfl : j = 0 := by omega
        simp [n1]
  · refine ⟨fun _ => at_ l d, 0, fun _ => 0, rfl, fun j hj => by omega, c0, ?_, l0, fun j hj => by omega⟩
    unfold skip; rw [if_neg c0]
theorem dropTo_skip {l : List Int} {e i : Nat} (h : i / 2 = e) : dropTo l e (i + 1) = dropTo l e i := by
  unfold dropTo
  rw [List.range_succ, List.filter_append]
  simp [h]
theorem dropTo_take {l : List Int} {e i : Nat} (h : i / 2 ≠ e) : dropTo l e (i + 1) = dropTo l e i ++ [less e (skip l e (at_ l i))] := by
  unfold dropTo
  rw [List.range_succ, List.filter_append]
  simp [h]
theorem dropTo_len (l : List Int) (e i : Nat) : (dropTo l e i).length ≤ i := by
  unfold dropTo
  rw [List.length_map]
  refine Nat.le_trans (List.length_filter_le _ _) ?_
  rw [List.length_range]; exact Nat.le_refl _
end Mp
set_option maxRecDepth 10000 in
theorem drop_l1Bit (b : Bool) (w : World) : Calls Try.prog 95 #[.bool b] w fun e w' => e = .returned (.int .i64 (if b then 1 else 0)) ∧ w' = w := by
  cases b
  · go_enter Try.func95, Try.ntmps95
    go_wp2
    go_ret
    exact ⟨rfl, rfl⟩
  · go_enter Try.func95, Try.ntmps95
    go_wp2
    go_ret
    exact ⟨rfl, rfl⟩
theorem drop_bit1 (w : World) : Calls Try.prog 95 #[.bool true] w fun e w' => e = .returned (.int .i64 1) ∧ w' = w := (drop_l1Bit true w).mono (by rintro e w' ⟨rfl, rfl⟩; exact ⟨rfl, rfl⟩)
theorem drop_bit0 (w : World) : Calls Try.prog 95 #[.bool false] w fun e w' => e = .returned (.int .i64 0) ∧ w' = w := (drop_l1Bit false w).mono (by rintro e w' ⟨rfl, rfl⟩; exact ⟨rfl, rfl⟩)
set_option maxRecDepth 10000 in
set_option maxHeartbeats 4000000 in
theorem spec_DropEdge (a : Option Addr) (c : Nat) (l : List Int) (ve : Int) (w : World) (ha : RowAt w a (intCells l)) (hl : l.length ≤ 1048576) (_ : -9223372036854775808 ≤ ve) (_ : ve ≤ 9223372036854775807) :
    Calls Try.prog 36 #[.slice a l.length c, .int .i64 ve] w fun e w' => Gives2 w (Mp.drop l ve) (decide (Mp.DropOk l ve)) e w' := by
  have hc := spec_IsMap a c l w ha hl
  by_cases hM : Mp.IsM l
  · rw [decide_eq_true hM] at hc
    have hn := hM.2.1
    have hn2 := hM.1
    have hev := hM.2.2.1
    by_cases h2 : l.length = 2
    · have hok : ¬ Mp.DropOk l ve := fun h => h.2 h2
      rw [decide_eq_false hok, show Mp.drop l ve = [] from if_neg hok]
      rw [h2] at hc ⊢
      have Hc := Lib.hid hc
      clear hc ha hok hM h2 hn hn2 hev hl
      go_enter Try.func36, Try.ntmps36
      go_wp2_with fail
      refine Hc.out.mono ?_
      rintro e w1 ⟨rfl, hb⟩
      have Hb := Lib.hid hb; clear hb
      go_wp2
      go_ret2
      exact ⟨_, _, rfl, Nat.le_refl _, Nat.zero_le _, Or.inl rfl, Hb.out.alloc Hb.out.size _⟩
    · have hq : ((l.length : Int) == 2) = false := beq_eq_false_iff_ne.2 (by omega)
      have hq2 : ¬ (l.length : Int) = 2 := by omega
      have ht : Int.tdiv (l.length : Int) 2 = ((l.length / 2 : Nat) : Int) := rfl
      have hw0 : IntKind.i64.wrap ((l.length / 2 : Nat) : Int) = ((l.length / 2 : Nat) : Int) := wrap_small (by omega) (by omega)
      have hw1 : IntKind.i64.wrap (((l.length / 2 : Nat) : Int) - 1) = ((l.length / 2 : Nat) : Int) - 1 := wrap_small (by omega) (by omega)
      have hA := fun W => spec_l1In ve 0 (((l.length / 2 : Nat) : Int) - 1) W
      by_cases h1 : 0 ≤ ve ∧ ve < ((l.length / 2 : Nat) : Int)
      · rw [decide_eq_true (show 0 ≤ ve ∧ ve ≤ ((l.length / 2 : Nat) : Int) - 1 by omega)] at hA
        have hok : Mp.DropOk l ve := ⟨⟨hM, h1⟩, h2⟩
        rw [decide_eq_true hok, show Mp.drop l ve = intsOf (Mp.dropN l ve.toNat) from if_pos hok]
        obtain ⟨x, rfl⟩ : ∃ x : Nat, ve = ((x : Nat) : Int) := ⟨ve.toNat, by have := h1.1; omega⟩
        simp only [Int.toNat_natCast]
        have hx : 2 * x + 1 < l.length := by have := h1.2; omega
        have hP := hM.2.2.2
        have hread : ∀ d, d < l.length → ∃ b o, a = some ⟨b, o, none⟩ ∧ ∀ W, Below w.heap.size w W → W.cell? ⟨b, o + d, none⟩ = some (.int .i64 ((Mp.at_ l d : Nat) : Int)) := fun d hd => by
          obtain ⟨b, o, e, hb, hc⟩ := intCells_get? ha (Mp.at_get hP hd)
          exact ⟨b, o, e, fun W hW => by rw [hW.cell (p := ⟨b, o + d, none⟩) hb]; exact hc⟩
        obtain ⟨R, hR⟩ : ∃ R, Mp.dropN l x = R := ⟨_, rfl⟩
        rw [hR]
        obtain ⟨i0, hi0, hz0, hz1, hz2⟩ := info_int_parts
        have Hi0 := Lib.hid hi0; have Hz0 := Lib.hid hz0; have Hz1 := Lib.hid hz1; have Hz2 := Lib.hid hz2
        have Hc := Lib.hid hc; have HA := Lib.hid hA; have HP := Lib.hid hP; have Hread := Lib.hid hread; have HR := Lib.hid hR
        generalize hN : w.heap.size = N at *
        have HN := Lib.hid hN
        have hmm : ((l.length / 2 : Nat) : Int) = (l.length : Int) / 2 := by omega
        clear hc hA ha hok hM hP hread hR hi0 hz0 hz1 hz2 h1 hev
        go_enter Try.func36, Try.ntmps36
        go_wp2_with fail
        refine Hc.out.mono ?_
        rintro e w1 ⟨rfl, hb⟩
        have Hb := Lib.hid hb; clear hb
        go_wp2_with fail
        refine (HA.out _).mono ?_
        rintro e w2 ⟨rfl, hw⟩
        rw [hw]; clear hw
        have hNw : N ≤ w1.heap.size := by have := Hb.out.size; rw [HN.out] at this; exact this
        have Hown0 := Lib.hid (own_mono (own_made (w := w1) rfl) hNw)
        have Hb0 := Lib.hid (Hb.out.alloc hNw (.cells #[] 3))
        go_wp2
        go_loopw [6, 7, 8] (fun ov iv _ wr => ∃ i : Nat, i ≤ l.length ∧ iv = .int .i64 i ∧ Hid (Below N w wr) ∧ Hid (wr.ownsRow N 3 1 ov (Mp.dropTo l x i).length (intCells (intsOf (Mp.dropTo l x i))))) (fun _ iv _ _ => l.length - (intOf iv).toNat)
        case atStart => exact ⟨0, by omega, rfl, Hb0, Hown0⟩
        case round =>
          obtain ⟨i, hi, rfl, hb, hk⟩ := hrel
          by_cases hlt : i < l.length
          · by_cases hie : i / 2 = x
            · have hs := Mp.dropTo_skip (l := l) hie
              have Hk2 : Hid (wr.ownsRow N 3 1 _ (Mp.dropTo l x (i + 1)).length (intCells (intsOf (Mp.dropTo l x (i + 1))))) := Lib.hid (by rw [hs]; exact hk.out)
              have hq3 : (i : Int) / 2 = (x : Int) := by omega
              clear hs hie
              go_wp2
              go_roundw
              case rel => exact ⟨i + 1, by omega, by go_num, hb, Hk2⟩
              case measure => simp [intOf]; omega
            · have hq3 : ¬ (i : Int) / 2 = (x : Int) := by omega
              obtain ⟨b, o, rfl, hrd⟩ := Hread.out i hlt
              have hci := hrd wr hb.out
              obtain ⟨Y, J, mu, hY0, hYs, hYJ, hYv, hYl, hmu⟩ := Mp.skip_chain HP.out hlt hie hx
              have hstep := Mp.dropTo_take (l := l) hie
              rw [← hYv] at hstep
              rw [← hY0] at hci
              have hlen := Mp.dropTo_len l x i
              have Hstep := Lib.hid hstep; have HYs := Lib.hid hYs; have Hmu := Lib.hid hmu; have HYJ := Lib.hid hYJ; have HYl := Lib.hid hYl
              clear hstep hY0 hYs hmu hYv hYJ hYl hie hrd
              generalize Mp.dropTo l x i = X at *
              obtain ⟨wo, rfl⟩ : ∃ wo, wo = wr := ⟨_, rfl⟩
              go_wp2
              go_loopw [8] (fun nv w2 => w2 = wo ∧ ∃ j : Nat, j ≤ J ∧ nv = .int .i64 (Y j : Nat)) (fun nv _ => mu (intOf nv).toNat)
              case atStart => exact ⟨rfl, 0, by omega, rfl⟩
              case round =>
                obtain ⟨hwo, j, hj, rfl⟩ := hrel
                rw [hwo]; clear hwo
                by_cases hjJ : j < J
                · obtain ⟨y1, y2, y3⟩ := HYs.out j hjJ
                  have hm := Hmu.out j hjJ
                  obtain ⟨b', o', e', hrd⟩ := Hread.out (Y j) y3
                  cases e'
                  have hcy := hrd wo hb.out
                  rw [y2] at hcy
                  have Hm := Lib.hid hm
                  have hq4 : ((Y j : Nat) : Int) / 2 = (x : Int) := by omega
                  have h0y : (0 : Int) ≤ ((Y j : Nat) : Int) := by omega
                  have h1y : ((Y j : Nat) : Int) < (l.length : Int) := by omega
                  clear hm hrd y2 y1
                  go_wp2
                  go_roundw
                  case rel => exact ⟨by first | rfl | trivial, j + 1, by omega, rfl⟩
                  case measure => exact Hm.out
                · obtain rfl : j = J := by omega
                  have hyJ := HYJ.out
                  have hyl := HYl.out
                  have hq4 : ¬ ((Y j : Nat) : Int) / 2 = (x : Int) := by omega
                  have hown := hk.out
                  obtain ⟨av, cv, rfl⟩ := own_len hown
                  have hNle : N ≤ wo.heap.size := by have := hb.out.size; rw [HN.out] at this; exact this
                  have hc1 : X.length + 1 ≤ maxLen := by unfold maxLen; omega
                  have hc2 : (X.length + 1) * 8 ≤ 140737488355328 := by omega
                  have hown1 := hown
                  by_cases hbig : x < Y j / 2
                  · have hq5 : (x : Int) < ((Y j : Nat) : Int) / 2 := by omega
                    have hls : Mp.less x (Y j) = Y j - 2 := by unfold Mp.less; rw [if_pos hbig]
                    have hsub : IntKind.i64.wrap (((Y j : Nat) : Int) - 2) = ((Y j - 2 : Nat) : Int) := by
                      rw [show ((Y j : Nat) : Int) - 2 = ((Y j - 2 : Nat) : Int) from by omega]; exact wrap_small (by omega) (by omega)
                    have Hls := Lib.hid hls
                    clear hls hyJ hbig hk
                    generalize hy2 : Y j - 2 = y2 at *
                    have Hy2 := Lib.hid hy2; clear hy2
                    generalize hyj : Y j = y at *
                    have Hyj := Lib.hid hyj; clear hyj
                    go_wp2_with fail
                    refine (drop_bit1 _).mono ?_
                    rintro e w2 ⟨rfl, hw⟩
                    rw [hw]; clear hw
                    go_wp2_with (at_builtin; refine append_one rfl (.tmp 50) (.tmp 59) 22 rfl N 3 i0 _ 8 Try.underlying22 Hi0.out Hz0.out Hz1.out Hz2.out (by rfl) _ _ _ rfl hown (by rfl) _ rfl hc1 hc2 hNle ?_; intro v1 w3 hown2 hg1 _)
                    go_roundw
                    case rel =>
                      refine ⟨i + 1, by omega, by go_num, Lib.hid (Below.grown (hb.out.alloc hNle _) hg1 (by simp; omega) (fun k hk => (hown.lt k hk).1)), Lib.hid ?_⟩
                      rw [Hstep.out, List.length_append, intsOf_snoc, ← intCells_snoc, Hls.out]; exact hown2
                    case measure => simp [intOf]; omega
                  · have hq5 : ¬ (x : Int) < ((Y j : Nat) : Int) / 2 := by omega
                    have hls : Mp.less x (Y j) = Y j := by unfold Mp.less; rw [if_neg hbig]
                    have hsub : IntKind.i64.wrap ((Y j : Nat) : Int) = ((Y j : Nat) : Int) := wrap_small (by omega) (by omega)
                    have Hls := Lib.hid hls
                    clear hls hyJ hbig hk
                    generalize hyj : Y j = y at *
                    have Hyj := Lib.hid hyj; clear hyj
                    go_wp2_with fail
                    refine (drop_bit0 _).mono ?_
                    rintro e w2 ⟨rfl, hw⟩
                    rw [hw]; clear hw
                    go_wp2_with (at_builtin; refine append_one rfl (.tmp 50) (.tmp 59) 22 rfl N 3 i0 _ 8 Try.underlying22 Hi0.out Hz0.out Hz1.out Hz2.out (by rfl) _ _ _ rfl hown (by rfl) _ rfl hc1 hc2 hNle ?_; intro v1 w3 hown2 hg1 _)
                    go_roundw
                    case rel =>
                      refine ⟨i + 1, by omega, by go_num, Lib.hid (Below.grown (hb.out.alloc hNle _) hg1 (by simp; omega) (fun k hk => (hown.lt k hk).1)), Lib.hid ?_⟩
                      rw [Hstep.out, List.length_append, intsOf_snoc, ← intCells_snoc, Hls.out]; exact hown2
                    case measure => simp [intOf]; omega
          · obtain rfl : i = l.length := by omega
            obtain ⟨av, cv, rfl⟩ := own_len hk.out
            have Hg : Hid (wr.ownsRow w.heap.size 3 1 (.slice av (Mp.dropN l x).length cv) (Mp.dropN l x).length (intCells (intsOf (Mp.dropN l x)))) := Lib.hid (by rw [HN.out]; exact hk.out)
            have Hbb : Hid (Below w.heap.size w wr) := Lib.hid (by rw [HN.out]; exact hb.out)
            clear hk hb
            go_wp2
            go_ret2
            rw [← HR.out]
            exact (own_gives Hg.out (intsOf_len _) Hbb.out).with

      · rw [decide_eq_false (show ¬ (0 ≤ ve ∧ ve ≤ ((l.length / 2 : Nat) : Int) - 1) by omega)] at hA
        have hok : ¬ Mp.DropOk l ve := fun h => h1 h.1.2
        rw [decide_eq_false hok, show Mp.drop l ve = [] from if_neg hok]
        have hmm : ((l.length / 2 : Nat) : Int) = (l.length : Int) / 2 := by omega
        have Hc := Lib.hid hc; have HA := Lib.hid hA
        clear hc hA ha hok hM h1
        go_enter Try.func36, Try.ntmps36
        go_wp2_with fail
        refine Hc.out.mono ?_
        rintro e w1 ⟨rfl, hb⟩
        have Hb := Lib.hid hb; clear hb
        go_wp2_with fail
        refine (HA.out _).mono ?_
        rintro e w2 ⟨rfl, hw⟩
        rw [hw]; clear hw
        go_wp2
        go_ret2
        exact ⟨_, _, rfl, Nat.le_refl _, Nat.zero_le _, Or.inl rfl, Hb.out.alloc Hb.out.size _⟩
  · rw [decide_eq_false hM] at hc
    have hok : ¬ Mp.DropOk l ve := fun h => hM h.1.1
    rw [decide_eq_false hok, show Mp.drop l ve = [] from if_neg hok]
    have Hc := Lib.hid hc
    clear hc hM ha hok
    go_enter Try.func36, Try.ntmps36
    go_wp2_with fail
    refine Hc.out.mono ?_
    rintro e w1 ⟨rfl, hb⟩
    have Hb := Lib.hid hb; clear hb
    go_wp2
    go_ret2
    exact ⟨_, _, rfl, Nat.le_refl _, Nat.zero_le _, Or.inl rfl, Hb.out.alloc Hb.out.size _⟩
end Go.Proofs.Ytjpafacldcnboaa
