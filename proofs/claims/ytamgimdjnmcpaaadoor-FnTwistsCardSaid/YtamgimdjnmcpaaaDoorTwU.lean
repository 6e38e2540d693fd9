/-
  The walks of the model's TimesTable, l11Gcd, IsPrimitiveClass, l11Three, l11Same, BraidHolds and CommuteHolds.
-/
import Derived.Test.YtamgimdjnmcpaaaDoorBase
import Derived.Test.YtamgimdjnmcpaaaDoorSlice
import Derived.Test.YtamgimdjnmcpaaaDoorIntRow
import Derived.Test.YtamgimdjnmcpaaaDoorInts
import Derived.Test.YtamgimdjnmcpaaaDoorOwn
import Derived.Test.YtamgimdjnmcpaaaDoorAppend
import Derived.Test.YtamgimdjnmcpaaaDoorIsWord
import Derived.Test.YtamgimdjnmcpaaaDoorConj
import Derived.Test.YtamgimdjnmcpaaaDoorUses
import Derived.Test.YtamgimdjnmcpaaaDoorGrid
import Derived.Test.YtamgimdjnmcpaaaDoorGridWalk
import Derived.Test.YtamgimdjnmcpaaaDoorGridRows
import Derived.Test.YtamgimdjnmcpaaaDoorGivesRows
import Derived.Test.YtamgimdjnmcpaaaDoorRowI
import Derived.Test.YtamgimdjnmcpaaaDoorRowsLit
import Derived.Test.YtamgimdjnmcpaaaDoorMoveA
import Derived.Test.YtamgimdjnmcpaaaDoorMoveB
import Derived.Test.YtamgimdjnmcpaaaDoorTw
import Derived.Test.YtamgimdjnmcpaaaDoorTwB
import Derived.Test.YtamgimdjnmcpaaaDoorTwC
import Derived.Test.YtamgimdjnmcpaaaDoorTwD
import Derived.Test.YtamgimdjnmcpaaaDoorTwE
import Derived.Test.YtamgimdjnmcpaaaDoorTwF
import Derived.Test.YtamgimdjnmcpaaaDoorTwG
import Derived.Test.YtamgimdjnmcpaaaDoorTwS
import Derived.Test.YtamgimdjnmcpaaaDoorTwT
import Derived.Test.YtamgimdjnmcpaaaDoorTabPut
import Derived.Deep.QuietTactic
import Derived.Deep.RegionHeld3
import Derived.BigQuiet
import Derived.StillTailTactics
namespace Go.Proofs.YtamgimdjnmcpaaaDoor
open Go.RowKit

theorem Tw.times_part {s t : List (List Int)} {n : Nat} (ht : Tw.IsT t) (hn : t.length = n) (hall : ∀ j, j < n → Tw.AppOk s (Tw.col t j)) : Tw.cols ((List.range n).map fun j => Tw.apply s (Tw.col t j)) = Tw.times s t ∧ Tw.TimesOk s t := by
  subst hn
  have h := Tw.times_tab (s := s) ht
  have hall2 : (Tw.cols t).all (fun x => decide (Tw.AppOk s x)) = true := by
    rw [List.all_eq_true]
    intro x hx
    obtain ⟨j, hj, rfl⟩ := Tw.cols_mem hx
    exact decide_eq_true (hall j hj)
  have h1 := h.1
  rw [Tw.tab_true hall2] at h1
  refine ⟨?_, of_decide_eq_true (by rw [← h.2]; exact hall2)⟩
  rw [← h1]
  unfold Tw.cols
  rw [List.map_map]; rfl
theorem Tw.times_bad {s t : List (List Int)} {j : Nat} (ht : Tw.IsT t) (hj : j < t.length) (h : ¬ Tw.AppOk s (Tw.col t j)) : ¬ Tw.TimesOk s t := fun hm => by
  have h2 := (Tw.times_tab (s := s) ht).2
  rw [decide_eq_true hm, List.all_eq_true] at h2
  exact h (of_decide_eq_true (h2 _ (List.mem_map.2 ⟨j, List.mem_range.2 hj, rfl⟩)))
set_option maxRecDepth 10000 in
set_option maxHeartbeats 4000000 in
theorem spec_TimesTable (aS : Option Addr) (cS : Nat) (S : List (List Int)) (aT : Option Addr) (cT : Nat) (T : List (List Int)) (w : World) (hS : GridAt w aS S) (hnS : S.length ≤ 1048576) (hrS : ∀ r ∈ S, r.length ≤ 1048576) (hT : GridAt w aT T) (hnT : T.length ≤ 1048576) (hrT : ∀ r ∈ T, r.length ≤ 1048576) :
    Calls Tryd.prog 24 #[.slice aS S.length cS, .slice aT T.length cT] w fun e w' => GivesRows2 w (Tw.times S T) (decide (Tw.TimesOk S T)) e w' := by
  have hA := spec_l11Table aS cS S w hS hnS hrS
  by_cases tS : Tw.IsT S
  · rw [decide_eq_true tS] at hA
    have hB := spec_l11Table aT cT T w hT hnT hrT
    by_cases tT : Tw.IsT T
    · rw [decide_eq_true tT] at hB
      by_cases hl : S.length = T.length
      · have t1 : ((S.length : Int) != (T.length : Int)) = false := by simp [hl]
        obtain ⟨i0, hi0, hz0, hz1, hz2⟩ := info_int_parts
        have Hi0 := Lib.hid hi0; have Hz0 := Lib.hid hz0; have Hz1 := Lib.hid hz1; have Hz2 := Lib.hid hz2
        have hP := spec_l5Copy aT cT T w hT (by
          have h6 := tT.1.2
          have hs : ∀ M : List (List Int), (∀ r ∈ M, r.length ≤ 6) → sumLen M ≤ 6 * M.length := by
            intro M
            induction M with
            | nil => intro _; simp [sumLen]
            | cons r M ih =>
              intro h
              have h1 := h r (List.mem_cons_self ..)
              have h2 := ih fun q hq => h q (List.mem_cons_of_mem _ hq)
              have e : sumLen (r :: M) = r.length + sumLen M := by simp [sumLen]
              rw [e, List.length_cons]; omega
          have := hs T fun r hr => by rw [(tT.2 r hr).1]; exact h6
          unfold tot; omega)
        have hAp := fun W (hb : Below w.heap.size w W) (xa : Option Addr) (xc j : Nat) (hx : RowAt W xa (intCells (Tw.col T j))) => spec_ApplyTable aS cS S xa xc (Tw.col T j) W (hS.below hb) hnS hrS hx (by rw [Tw.col_len]; exact hnT)
        simp only [Tw.col_len] at hAp
        obtain ⟨n, hn⟩ : ∃ n, T.length = n := ⟨_, rfl⟩
        have hn6 : n ≤ 6 := by have := tT.1.2; omega
        have hn1 : 0 < n := by have := tT.1.1; omega
        have HA := Lib.hid hA; have HB := Lib.hid hB; have HP := Lib.hid hP; have HAp := Lib.hid hAp; have HtT := Lib.hid tT; have Hn := Lib.hid hn; have RT := Lib.hid hT; have HrT := Lib.hid (fun r hr => (tT.2 r hr).1)
        have Hz := Lib.hid (show Tw.part (fun j => Tw.apply S (Tw.col T j)) (fun i m => Tw.nth (T.getD i []) m) n 0 0 = T by rw [← hn]; exact Tw.part_table fun r hr => (tT.2 r hr).1)
        have hlS : S.length = n := by rw [hl, hn]
        rw [hlS] at HA
        simp only [hn, hlS] at HAp
        rw [hn] at HB HP
        rw [hlS, hn] at t1
        rw [hlS, hn]
        clear hA hB hP hAp tS tT hl hS hT hrS hrT hi0 hz0 hz1 hz2 hn hlS
        go_enter Tryd.func24, Tryd.ntmps24
        go_wp2_with fail
        refine HA.out.mono ?_
        rintro e w1 ⟨rfl, hw⟩
        rw [hw]; clear hw w1
        go_wp2_with fail
        refine HB.out.mono ?_
        rintro e w1 ⟨rfl, hw⟩
        rw [hw]; clear hw w1
        go_wp2_with fail
        refine HP.out.mono ?_
        rintro e w1 ⟨v1, rfl, hH, hb1⟩
        obtain ⟨G, cp, hov, hG1, hG2, hcp, hcm⟩ := hH.form (by rw [Hn.out]; exact hn1)
        rw [Hn.out] at hov
        subst hov
        rw [← Hz.out] at hH
        have HH := Lib.hid hH; have Hbw := Lib.hid hb1; have HGl := Lib.hid hG1
        clear hH hb1 hG1 hG2
        go_wp2
        go_loopw [4, 5, 7, 8, 9, 10, 11, 12] (fun rv sv jv _ _ _ _ _ wr => rv = .slice none 0 0 ∧ sv = .bool false ∧ ∃ j : Nat, j ≤ n ∧ jv = .int .i64 j ∧ Hid (Held wr w.heap.size (.slice (some ⟨G, 0, none⟩) n cp) (Tw.part (fun j => Tw.apply S (Tw.col T j)) (fun i m => Tw.nth (T.getD i []) m) n j 0)) ∧ Hid (Below w.heap.size w wr) ∧ Hid (∀ q, q < j → Tw.AppOk S (Tw.col T q))) (fun _ _ jv _ _ _ _ _ _ => n - (intOf jv).toNat)
        case atStart => exact ⟨rfl, rfl, 0, by omega, rfl, HH, Hbw, Lib.hid (fun q hq => by omega)⟩
        case round =>
          obtain ⟨rfl, rfl, j, hj, rfl, hh, hb, hok⟩ := hrel
          by_cases hjt : j < n
          · obtain ⟨wo, hwo⟩ : ∃ wo : World, wo = wr := ⟨_, rfl⟩
            subst hwo
            have R0 := Lib.hid (RowI.made (Below.refl wo.heap.size wo) (Nat.le_refl _))
            have j0 : (0 : Int) ≤ (j : Int) := by omega
            have j1 : (j : Int) < (n : Int) := by omega
            go_wp2
            go_loopw [8, 9] (fun ov iv wr => ∃ i : Nat, i ≤ n ∧ iv = .int .i64 i ∧ Hid (RowI wo wo.heap.size wr ov ((Tw.col T j).take i))) (fun _ iv _ => n - (intOf iv).toNat)
            case atStart => exact ⟨0, by omega, rfl, R0⟩
            case round =>
              obtain ⟨i, hi, rfl, hR⟩ := hrel
              have htl : ((Tw.col T j).take i).length = i := by rw [List.length_take, Tw.col_len, Hn.out]; omega
              have hbo := hR.out.2
              by_cases hlt : i < n
              · obtain ⟨r, hr⟩ := get_some (show i < T.length by rw [Hn.out]; exact hlt)
                obtain ⟨b, o, ai, ci, eb, hbw, hcell, hrow⟩ := (RT.out.below (hb.out.trans (hbo.mono hb.out.size))).get hr
                subst eb
                have hrl : r.length = n := by rw [HrT.out r (get_mem hr), Hn.out]
                rw [hrl] at hcell
                obtain ⟨b1, o1, e1, _, hc1⟩ := intCells_get? hrow (Tw.get?_nth (show j < r.length by rw [hrl]; exact hjt))
                subst e1
                have htk := Tw.col_take (j := j) hr
                generalize Tw.nth r j = V at *
                have hown := hR.out.1
                rw [htl] at hown
                have hN : wo.heap.size ≤ wr.heap.size := hbo.size
                obtain ⟨ova, ovc, hov⟩ := own_len hown
                subst hov
                have hRR := hR.out
                have Hmore := Lib.hid (fun (w3 : World) (v3 : Value) (k1 : w3.ownsRow wo.heap.size 3 1 v3 (((Tw.col T j).take i).length + 1) (intCells ((Tw.col T j).take i) ++ [.int .i64 V])) (k2 : (wr.alloc (.cells #[.int .i64 V] 3)).grownBy w3 (Value.slice ova i ovc).ownBlock) => hRR.more hN k1 k2)
                rw [htl] at Hmore
                have Hown := Lib.hid hown; have Htk := Lib.hid htk
                have hm1 : i + 1 ≤ maxLen := by unfold maxLen; omega
                have hm2 : (i + 1) * 8 ≤ 140737488355328 := by omega
                have q0 : (0 : Int) ≤ (i : Int) := by omega
                have q1 : (i : Int) < (n : Int) := by omega
                clear hown hRR htk hr hrow hrl hbo htl hR hbw
                go_wp2_with (at_builtin; refine append_one rfl (.tmp 44) (.tmp 52) 24 rfl wo.heap.size 3 i0 _ 8 Tryd.underlying24 Hi0.out Hz0.out Hz1.out Hz2.out (by rfl) _ _ _ rfl Hown.out (by rfl) _ rfl hm1 hm2 hN ?_; intro v1 w5 hown5 hg5 _; have Hown5 := Lib.hid hown5; have Hg5 := Lib.hid hg5; clear hown5 hg5)
                go_roundw
                case rel => exact ⟨i + 1, by omega, by go_num, Lib.hid (by rw [Htk.out]; exact Hmore.out w5 v1 Hown5.out Hg5.out)⟩
                case measure => simp [intOf]; omega
              · obtain rfl : i = n := by omega
                have htk : (Tw.col T j).take i = Tw.col T j := List.take_of_length_le (by rw [Tw.col_len, Hn.out]; exact Nat.le_refl _)
                rw [htk] at hR
                obtain ⟨xa, xc, hv, hrow, hbb⟩ := hR.out.gives.form
                rw [Tw.col_len, Hn.out] at hv
                subst hv
                have hq := HAp.out wr (hb.out.trans (hbb.mono hb.out.size)) xa xc j hrow
                have Hq := Lib.hid hq
                have HhB := Lib.hid ((hh.out.toB).below hbb)
                have Hbb := Lib.hid hbb
                clear hq hrow hbb htk hR htl hbo
                by_cases hk : Tw.AppOk S (Tw.col T j)
                · rw [decide_eq_true hk] at Hq
                  have Hk := Lib.hid hk
                  have HXl := Lib.hid (show (Tw.apply S (Tw.col T j)).length = i by rw [Tw.apply_len (decide_eq_true hk), ← hk.1.2.1, Tw.col_len, Hn.out])
                  clear hk
                  go_wp2_with fail
                  refine Hq.out.mono ?_
                  rintro e w4 ⟨ra, rc, rfl, _, _, hf4, hb4⟩
                  rw [HXl.out]
                  have HhB4 := Lib.hid (HhB.out.below hb4)
                  have Hx4 := Lib.hid ((RowIn.of_fresh hf4).mono Hbb.out.size (Nat.le_refl _))
                  have Hb4 := Lib.hid (hb.out.trans ((Hbb.out.trans (hb4.mono Hbb.out.size)).mono hb.out.size))
                  have HM4 := Lib.hid (Nat.le_trans Hbb.out.size hb4.size)
                  obtain ⟨M, hM⟩ : ∃ M, wo.heap.size = M := ⟨_, rfl⟩
                  rw [hM] at HhB4 Hx4 HM4
                  clear hf4 hb4 hM hh Hq HhB
                  go_wp2
                  go_loopw [12] (fun kv wr => ∃ k : Nat, k ≤ i ∧ kv = .int .i64 k ∧ Hid (HeldB wr w.heap.size M (.slice (some ⟨G, 0, none⟩) i cp) (Tw.part (fun j => Tw.apply S (Tw.col T j)) (fun i m => Tw.nth (T.getD i []) m) i j k)) ∧ Hid (RowIn wr M w4.heap.size 3 ra (intCells (Tw.apply S (Tw.col T j)))) ∧ Hid (Below w.heap.size w wr ∧ M ≤ wr.heap.size)) (fun kv _ => i - (intOf kv).toNat)
                  case atStart => exact ⟨0, by omega, rfl, HhB4, Hx4, Lib.hid ⟨Hb4.out, HM4.out⟩⟩
                  case round =>
                    obtain ⟨k, hk, rfl, hB, hx, hbb⟩ := hrel
                    by_cases hkt : k < i
                    · have hrow := Tw.part_get (F := fun j => Tw.apply S (Tw.col T j)) (z := fun i m => Tw.nth (T.getD i []) m) (j := j) (k := k) hkt
                      obtain ⟨g', o', ci, hhd, hfz, ⟨u, hdst⟩, hlo, hgM, hst⟩ := hB.out.store hrow (j := j) (by simpa using hjt)
                      have hc1 := hhd G i cp rfl
                      simp only [List.length_map, List.length_range] at hc1
                      obtain ⟨b2, o2, e2, _, hc2⟩ := intCells_get? hx.out.row (Tw.get?_nth (show k < (Tw.apply S (Tw.col T j)).length by rw [HXl.out]; exact hkt))
                      subst e2
                      have hput := Tw.part_put (F := fun j => Tw.apply S (Tw.col T j)) (z := fun i m => Tw.nth (T.getD i []) m) hjt hkt
                      have hst2 := hst (Tw.nth (Tw.apply S (Tw.col T j)) k)
                      rw [hput] at hst2
                      have Hst := Lib.hid hst2
                      have HgM := Lib.hid hgM; have Hlo := Lib.hid hlo
                      generalize Tw.nth (Tw.apply S (Tw.col T j)) k = V at *
                      have k0 : (0 : Int) ≤ (k : Int) := by omega
                      have k1 : (k : Int) < (i : Int) := by omega
                      clear hrow hhd hst hst2 hput hlo hgM
                      go_wp2
                      go_still_tail 10, (by kernel_rfl)
                      change wpList _ _ _ _ _ wr.drew
                      go_wp2
                      go_roundw
                      case rel => exact ⟨k + 1, by omega, by go_num, Lib.hid (by have h := Hst.out.below (Below.drew (Below.refl _ _)); exact h), Lib.hid ((hx.out.setFar (p := ⟨g', o' + j, none⟩) HgM.out (.int .i64 V)).below (Below.drew (Below.refl _ _))), Lib.hid ⟨Below.drew (Below.setCell hbb.out.1 Hlo.out _), by have := hbb.out.2; simpa [World.setCell] using this⟩⟩
                      case measure => simp [intOf]; omega
                    · obtain rfl : k = i := by omega
                      go_wp2
                      go_roundw
                      case rel => exact ⟨rfl, rfl, j + 1, by omega, by go_num, Lib.hid (by rw [← Tw.part_next]; exact hB.out.held hbb.out.2), Lib.hid hbb.out.1, Lib.hid (fun q hq => by
                        rcases Nat.lt_or_ge q j with h | h
                        · exact hok.out q h
                        · obtain rfl : q = j := by omega
                          exact Hk.out)⟩
                      case measure => simp [intOf]; omega
                · have hno := Tw.times_bad HtT.out (by rw [Hn.out]; exact hjt) hk
                  rw [decide_eq_false hk] at Hq
                  have Hno := Lib.hid hno
                  clear hk hno
                  go_wp2_with fail
                  refine Hq.out.mono ?_
                  rintro e w4 ⟨ra, rc, rfl, _, _, _, hb4⟩
                  have Hb4 := Lib.hid (hb.out.trans ((Hbb.out.trans (hb4.mono Hbb.out.size)).mono hb.out.size)); clear hb4
                  go_wp2
                  go_ret2
                  rw [Tw.times_none Hno.out, decide_eq_false Hno.out]
                  exact GivesRows2.nilAt (Hb4.out.alloc Hb4.out.size _)
          · obtain rfl : j = n := by omega
            have hp := Tw.times_part HtT.out Hn.out hok.out
            have hall : Tw.part (fun q => Tw.apply S (Tw.col T q)) (fun i m => Tw.nth (T.getD i []) m) j j 0 = Tw.times S T := by rw [Tw.part_all]; exact hp.1
            rw [hall] at hh
            have Hok := Lib.hid hp.2
            have hg := hh.out.gives (b := true) hb.out
            have Hg := Lib.hid hg
            clear hp hall hg
            go_wp2
            go_ret2
            rw [decide_eq_true Hok.out]
            exact Hg.out
      · have t1 : ((S.length : Int) != (T.length : Int)) = true := by simp; omega
        have hno : ¬ Tw.TimesOk S T := fun h => hl h.1.2.2
        rw [Tw.times_none hno, decide_eq_false hno]
        have HA := Lib.hid hA; have HB := Lib.hid hB
        clear hA hB tS tT hl hS hT hrS hrT hno
        go_enter Tryd.func24, Tryd.ntmps24
        go_wp2_with fail
        refine HA.out.mono ?_
        rintro e w1 ⟨rfl, hw⟩
        rw [hw]; clear hw w1
        go_wp2_with fail
        refine HB.out.mono ?_
        rintro e w1 ⟨rfl, hw⟩
        rw [hw]; clear hw w1
        go_wp2
        go_ret2
        exact GivesRows2.nilAt ((Below.refl _ _).alloc (Nat.le_refl _) _)
    · rw [decide_eq_false tT] at hB
      have hno : ¬ Tw.TimesOk S T := fun h => tT h.1.2.1
      rw [Tw.times_none hno, decide_eq_false hno]
      have HA := Lib.hid hA; have HB := Lib.hid hB
      clear hA hB tS tT hS hT hrS hrT hno
      go_enter Tryd.func24, Tryd.ntmps24
      go_wp2_with fail
      refine HA.out.mono ?_
      rintro e w1 ⟨rfl, hw⟩
      rw [hw]; clear hw w1
      go_wp2_with fail
      refine HB.out.mono ?_
      rintro e w1 ⟨rfl, hw⟩
      rw [hw]; clear hw w1
      go_wp2
      go_ret2
      exact GivesRows2.nilAt ((Below.refl _ _).alloc (Nat.le_refl _) _)
  · rw [decide_eq_false tS] at hA
    have hno : ¬ Tw.TimesOk S T := fun h => tS h.1.1
    rw [Tw.times_none hno, decide_eq_false hno]
    have HA := Lib.hid hA
    clear hA tS hS hT hrS hrT hno
    go_enter Tryd.func24, Tryd.ntmps24
    go_wp2_with fail
    refine HA.out.mono ?_
    rintro e w1 ⟨rfl, hw⟩
    rw [hw]; clear hw w1
    go_wp2
    go_ret2
    exact GivesRows2.nilAt ((Below.refl _ _).alloc (Nat.le_refl _) _)
set_option maxRecDepth 10000 in
set_option maxHeartbeats 400000 in
theorem spec_l11Gcd (a b : Int) (w : World) (a0 : -1000 ≤ a) (a1 : a ≤ 1000) (b0 : -1000 ≤ b) (b1 : b ≤ 1000) :
    Calls Tryd.prog 69 #[.int .i64 a, .int .i64 b] w fun e w' => e = .returned (.int .i64 ((Nat.gcd a.natAbs b.natAbs : Nat) : Int)) ∧ w' = w := by
  go_enter Tryd.func69, Tryd.ntmps69
  go_wp2
  go_loopw [0, 1, 5] (fun dv nv _ wr => ∃ d n : Int, dv = .int .i64 d ∧ nv = .int .i64 n ∧ -1000 ≤ d ∧ d ≤ 1000 ∧ -1000 ≤ n ∧ n ≤ 1000 ∧ Hid (Nat.gcd d.natAbs n.natAbs = Nat.gcd a.natAbs b.natAbs) ∧ wr = w) (fun _ nv _ _ => (intOf nv).natAbs)
  case atStart => exact ⟨a, b, rfl, rfl, a0, a1, b0, b1, Lib.hid rfl, rfl⟩
  case round =>
    obtain ⟨d, n, rfl, rfl, k0, k1, k2, k3, hg, hw⟩ := hrel
    rw [hw]; clear hw wr
    by_cases hn : n = 0
    · subst hn
      have t1 : ((0 : Int) != 0) = false := by decide
      have Hc := Lib.hid (spec_l3Abs d w (by omega) (by omega))
      have Hg := Lib.hid (show d.natAbs = Nat.gcd a.natAbs b.natAbs by rw [← hg.out]; simp)
      go_wp2_with fail
      refine Hc.out.mono ?_
      rintro e w1 ⟨rfl, hw⟩
      rw [hw]; clear hw w1
      go_wp2
      go_ret
      exact ⟨by rw [← Hg.out]; rfl, rfl⟩
    · have t1 : (n != 0) = true := by simp [hn]
      have hlt2 := Tw.tmod_lt (d := d) hn
      have hgs := Tw.gcd_step d n
      obtain ⟨r, hr⟩ : ∃ r, d.tmod n = r := ⟨_, rfl⟩
      rw [hr] at hlt2 hgs
      have e1 : IntKind.i64.wrap (d.tmod n) = r := by rw [hr]; exact wrap_small (by omega) (by omega)
      have Hgs := Lib.hid hgs; have Hlt2 := Lib.hid hlt2
      have r0 : -1000 ≤ r := by omega
      have r1 : r ≤ 1000 := by omega
      clear hgs hlt2
      go_wp2
      go_roundw
      case rel => exact ⟨n, r, rfl, by first | rfl | simp [e1] | (rw [hr]), k2, k3, r0, r1, Lib.hid (by rw [Hgs.out]; exact hg.out), by first | rfl | trivial⟩
      case measure => have := Hlt2.out; simp [intOf]; omega
set_option maxRecDepth 10000 in
set_option maxHeartbeats 400000 in
theorem spec_IsPrimitiveClass (g : Int) (a : Option Addr) (c : Nat) (l : List Int) (w : World) (ha : RowAt w a (intCells l)) (hl : l.length ≤ 1048576) :
    Calls Tryd.prog 35 #[.int .i64 g, .slice a l.length c] w fun e w' => e = .returned (.bool (decide (Tw.Prim g l))) ∧ w' = w := by
  have hC := spec_IsClass g a c l w ha hl
  by_cases cC : Tw.IsC g l
  · rw [decide_eq_true cC] at hC
    have Hd := Lib.hid (show decide (Tw.Prim g l) = (((Tw.gcd l : Nat) : Int) == 1) by
      rw [Bool.eq_iff_iff, decide_eq_true_iff, beq_iff_eq]
      exact ⟨fun h => by rw [h.2]; rfl, fun h => ⟨cC, by omega⟩⟩)
    have HC := Lib.hid hC; have Ha := Lib.hid ha; have HF := Lib.hid cC.2.2
    clear hC cC ha
    go_enter Tryd.func35, Tryd.ntmps35
    go_wp2_with fail
    refine HC.out.mono ?_
    rintro e w1 ⟨rfl, hw⟩
    rw [hw]; clear hw w1
    go_wp2
    go_loopw [5, 6] (fun dv iv wr => ∃ i : Nat, i ≤ l.length ∧ iv = .int .i64 i ∧ ∃ d : Nat, dv = .int .i64 (d : Int) ∧ d ≤ 1000 ∧ Hid (d = Tw.gcd (l.take i)) ∧ wr = w) (fun _ iv _ => l.length - (intOf iv).toNat)
    case atStart => exact ⟨0, by omega, rfl, 0, rfl, by omega, Lib.hid rfl, rfl⟩
    case round =>
      obtain ⟨i, hi, rfl, d, rfl, hd1, hdg, hw⟩ := hrel
      rw [hw]; clear hw wr
      by_cases hlt : i < l.length
      · obtain ⟨b, o, eb, hbw, hcell⟩ := intCells_get? Ha.out (Tw.get?_nth hlt)
        subst eb
        have hx := HF.out.nth i
        have Hst := Lib.hid (Tw.gcd_take (Tw.get?_nth hlt))
        obtain ⟨x, hxe⟩ : ∃ x, Tw.nth l i = x := ⟨_, rfl⟩
        rw [hxe] at hcell hx Hst
        have hc := spec_l11Gcd (d : Int) x w (by omega) (by omega) hx.1 hx.2
        rw [show (d : Int).natAbs = d by omega] at hc
        have hle : Nat.gcd d x.natAbs ≤ 1000 := by
          rcases Nat.eq_zero_or_pos x.natAbs with h | h
          · rw [h]; simpa using hd1
          · have := Nat.gcd_le_right (m := d) h; omega
        have Hst2 := Lib.hid (show Nat.gcd d x.natAbs = Tw.gcd (l.take (i + 1)) by rw [Hst.out, hdg.out])
        generalize Nat.gcd d x.natAbs = D at *
        have Hc := Lib.hid hc
        have i0 : (0 : Int) ≤ (i : Int) := by omega
        have i1 : (i : Int) < (l.length : Int) := by omega
        clear hxe hc hx Hst
        go_wp2_with fail
        refine Hc.out.mono ?_
        rintro e w1 ⟨rfl, hw⟩
        rw [hw]; clear hw w1
        go_wp2
        go_roundw
        case rel => exact ⟨i + 1, by omega, by go_num, D, rfl, hle, Lib.hid Hst2.out, by first | rfl | trivial⟩
        case measure => simp [intOf]; omega
      · obtain rfl : i = l.length := by omega
        rw [List.take_of_length_le (Nat.le_refl _)] at hdg
        obtain ⟨v, hv⟩ : ∃ v, ((d : Int) == 1) = v := ⟨_, rfl⟩
        have Hv := Lib.hid (show decide (Tw.Prim g l) = v by rw [Hd.out, ← hdg.out]; exact hv)
        go_wp2
        go_ret
        exact ⟨by rw [Hv.out]; rfl, rfl⟩
  · rw [decide_eq_false cC] at hC
    rw [decide_eq_false fun h : Tw.Prim g l => cC h.1]
    have HC := Lib.hid hC
    clear hC cC ha
    go_enter Tryd.func35, Tryd.ntmps35
    go_wp2_with fail
    refine HC.out.mono ?_
    rintro e w1 ⟨rfl, hw⟩
    rw [hw]; clear hw w1
    go_wp2
    go_ret
    exact ⟨rfl, rfl⟩
set_option maxRecDepth 10000 in
set_option maxHeartbeats 1000000 in
theorem spec_l11Three (a1 a2 a3 : Option Addr) (c1 c2 c3 : Nat) (A B C : List (List Int)) (w : World) (f1 : Tw.Few A) (f2 : Tw.Few B) (f3 : Tw.Few C) (h1 : GridAt w a1 A) (h2 : GridAt w a2 B) (h3 : GridAt w a3 C) :
    Calls Tryd.prog 71 #[.slice a1 A.length c1, .slice a2 B.length c2, .slice a3 C.length c3] w fun e w' => GivesRows2 w (Tw.times (Tw.times A B) C) (decide (Tw.TimesOk (Tw.times A B) C)) e w' := by
  have T1 := Lib.hid (spec_TimesTable a1 c1 A a2 c2 B w h1 f1.rows.1 f1.rows.2 h2 f2.rows.1 f2.rows.2)
  have F2 := Lib.hid (Tw.times_few A B)
  have T2 := Lib.hid (fun W (hb : Below w.heap.size w W) (ra : Option Addr) (rc : Nat) (k1 : GridAt W ra (Tw.times A B)) => spec_TimesTable ra rc (Tw.times A B) a3 c3 C W k1 F2.out.rows.1 F2.out.rows.2 (h3.below hb) f3.rows.1 f3.rows.2)
  by_cases hk : Tw.TimesOk A B
  · rw [decide_eq_true hk] at T1
    generalize Tw.times (Tw.times A B) C = R at *
    generalize decide (Tw.TimesOk (Tw.times A B) C) = okk at *
    generalize Tw.times A B = Q at *
    clear h1 h2 h3 f1 f2 f3 hk
    go_enter Tryd.func71, Tryd.ntmps71
    go_wp2_with fail
    refine T1.out.mono ?_
    rintro e w1 ⟨ra, rc, rfl, _, _, hg1, hb1⟩
    have Hg1 := Lib.hid hg1.grid; have Hb1 := Lib.hid hb1; clear hg1 hb1
    go_wp2_with fail
    refine (T2.out w1 Hb1.out ra rc Hg1.out).mono ?_
    rintro e w2 ⟨sa, sc, rfl, k1, k2, hg2, hb2⟩
    have Hg2 := Lib.hid (hg2.mono Hb1.out.size (Nat.le_refl _)); have Hb2 := Lib.hid (Hb1.out.trans (hb2.mono Hb1.out.size)); have K1 := Lib.hid k1; clear hg2 hb2 k1
    go_wp2
    go_ret2
    exact ⟨sa, sc, rfl, K1.out, k2, Hg2.out, Hb2.out⟩
  · rw [decide_eq_false hk] at T1
    have hq := Tw.times_none hk
    have hno : ¬ Tw.TimesOk (Tw.times A B) C := fun h => by rw [hq] at h; exact Tw.not_isT_nil h.1.1
    rw [Tw.times_none hno, decide_eq_false hno]
    clear h1 h2 h3 f1 f2 f3 hk hq hno T2
    go_enter Tryd.func71, Tryd.ntmps71
    go_wp2_with fail
    refine T1.out.mono ?_
    rintro e w1 ⟨ra, rc, rfl, _, _, _, hb1⟩
    have Hb1 := Lib.hid hb1; clear hb1
    go_wp2
    go_ret2
    exact GivesRows2.nilAt (Hb1.out.alloc Hb1.out.size _)
set_option maxRecDepth 10000 in
set_option maxHeartbeats 1000000 in
theorem spec_l11Same (a a' : Option Addr) (c c' : Nat) (L L' : List (List Int)) (w : World) (ha : GridAt w a L) (ha' : GridAt w a' L') (h1 : Tw.Few L) (h2 : Tw.Few L') :
    Calls Tryd.prog 72 #[.slice a L.length c, .slice a' L'.length c'] w fun e w' => e = .returned (.bool (decide (L = L'))) ∧ Below w.heap.size w w' := by
  have l6 := h1.1; have l6' := h2.1
  by_cases hll : L.length = L'.length
  · have t0 : ((L.length : Int) != (L'.length : Int)) = false := by simp [hll]
    have Ha := Lib.hid ha; have Ha' := Lib.hid ha'; have H1 := Lib.hid h1.2; have H2 := Lib.hid h2.2; have Hll := Lib.hid hll
    clear ha ha' h1 h2 hll
    go_enter Tryd.func72, Tryd.ntmps72
    go_wp2
    go_loopw [4, 5] (fun rv iv wr => rv = .bool false ∧ ∃ i : Nat, i ≤ L.length ∧ iv = .int .i64 i ∧ Hid (∀ j, j < i → L[j]? = L'[j]?) ∧ Hid (Below w.heap.size w wr)) (fun _ iv _ => L.length - (intOf iv).toNat)
    case atStart => exact ⟨rfl, 0, by omega, rfl, Lib.hid (fun j h => by omega), Lib.hid (Below.refl _ _)⟩
    case round =>
      obtain ⟨rfl, i, hi, rfl, hall, hb⟩ := hrel
      by_cases hlt : i < L.length
      · obtain ⟨r, hr⟩ := get_some hlt
        obtain ⟨r', hr'⟩ := get_some (show i < L'.length by rw [← Hll.out]; exact hlt)
        obtain ⟨b1, o1, a1, c1, e1, hw1, hc1, hr1⟩ := Ha.out.get hr
        obtain ⟨b2, o2, a2, c2, e2, hw2, hc2, hr2⟩ := Ha'.out.get hr'
        subst e1; subst e2
        have hE := fun W (h : Below w.heap.size w W) => spec_l2Same a1 a2 c1 c2 r r' W (hr1.below h) (hr2.below h) (Nat.le_trans (H1.out r (get_mem hr)) (by decide)) (Nat.le_trans (H2.out r' (get_mem hr')) (by decide))
        have hmk : ∀ W, Below w.heap.size w W → W.cell? ⟨b1, o1 + i, none⟩ = some (.slice a1 r.length c1) ∧ W.cell? ⟨b2, o2 + i, none⟩ = some (.slice a2 r'.length c2) ∧ Below w.heap.size w W := fun W h => ⟨by rw [h.cell hw1]; exact hc1, by rw [h.cell hw2]; exact hc2, h⟩
        have Hmk := Lib.hid hmk
        have Hpr := Lib.hid (fun (W : World) (h : W.cell? ⟨b1, o1 + i, none⟩ = some (.slice a1 r.length c1) ∧ W.cell? ⟨b2, o2 + i, none⟩ = some (.slice a2 r'.length c2) ∧ Below w.heap.size w W) => h.2.2)
        have HS0 := Lib.hid (hmk _ (Below.drew hb.out))
        have Hr := Lib.hid hr; have Hr' := Lib.hid hr'
        have i0 : (0 : Int) ≤ (i : Int) := by omega
        have i1 : (i : Int) < (L.length : Int) := by omega
        have i2 : (i : Int) < (L'.length : Int) := by have := Hll.out; omega
        clear hr hr' hr1 hr2 hmk hc1 hc2 hw1 hw2
        by_cases he : r = r'
        · simp only [decide_eq_true he] at hE
          have HE := Lib.hid hE; have He := Lib.hid he
          clear hE he
          go_wp2
          go_region_held3 (fun w' => w'.cell? ⟨b1, o1 + i, none⟩ = some (.slice a1 r.length c1) ∧ w'.cell? ⟨b2, o2 + i, none⟩ = some (.slice a2 r'.length c2) ∧ Below w.heap.size w w') (first | (with_reducible assumption) | (with_reducible exact HS0.out))
            (first | (go_at_call 82; refine (HE.out _ (Hpr.out _ (by assumption))).mono ?_; rintro e v0 ⟨rfl, hb0⟩; have hS0 := Tw.held_on Hmk.out (by assumption) (fun h => Hpr.out _ h) hb0; have hl0 := Lib.hid (Hpr.out _ hS0); clear hb0))
          clear hS0 HS0
          go_wp2
          go_roundw
          case rel => exact ⟨rfl, i + 1, by omega, by go_num, Lib.hid (fun j h => by
            rcases Nat.lt_or_ge j i with h' | h'
            · exact hall.out j h'
            · obtain rfl : j = i := by omega
              rw [Hr.out, Hr'.out, He.out]), hl0⟩
          case measure => simp [intOf]; omega
        · simp only [decide_eq_false he] at hE
          have HE := Lib.hid hE
          have Hno := Lib.hid (show decide (L = L') = false from decide_eq_false (by
            rintro rfl
            rw [Hr.out] at Hr'
            exact he (Option.some.inj Hr'.out)))
          clear hE he
          go_wp2
          go_region_held3 (fun w' => w'.cell? ⟨b1, o1 + i, none⟩ = some (.slice a1 r.length c1) ∧ w'.cell? ⟨b2, o2 + i, none⟩ = some (.slice a2 r'.length c2) ∧ Below w.heap.size w w') (first | (with_reducible assumption) | (with_reducible exact HS0.out))
            (first | (go_at_call 82; refine (HE.out _ (Hpr.out _ (by assumption))).mono ?_; rintro e v0 ⟨rfl, hb0⟩; have hS0 := Tw.held_on Hmk.out (by assumption) (fun h => Hpr.out _ h) hb0; have hl0 := Lib.hid (Hpr.out _ hS0); clear hb0))
          clear hS0 HS0
          go_wp2
          go_ret
          exact ⟨by rw [Hno.out]; rfl, hl0.out⟩
      · obtain rfl : i = L.length := by omega
        have Hd := Lib.hid (show decide (L = L') = true from decide_eq_true (List.ext_getElem? (fun j => by
          rcases Nat.lt_or_ge j L.length with h | h
          · exact hall.out j h
          · rw [List.getElem?_eq_none h, List.getElem?_eq_none (by rw [← Hll.out]; exact h)])))
        go_wp2
        go_ret
        exact ⟨by rw [Hd.out]; rfl, hb.out⟩
  · have t0 : ((L.length : Int) != (L'.length : Int)) = true := by simp; omega
    have Hd := Lib.hid (show decide (L = L') = false from decide_eq_false (fun e => hll (by rw [e])))
    clear ha ha' h1 h2 hll
    go_enter Tryd.func72, Tryd.ntmps72
    go_wp2
    go_ret
    exact ⟨by rw [Hd.out]; rfl, Below.refl _ _⟩
theorem Tw.braid_bad {g : Int} {c d : List Int} (h : ¬ (Tw.MatOk g c ∧ Tw.MatOk g d)) : ¬ Tw.Braid g c d ∧ ¬ Tw.Comm g c d := by
  by_cases h1 : Tw.MatOk g c
  · have h2 : ¬ Tw.MatOk g d := fun h2 => h ⟨h1, h2⟩
    have e := Tw.mat_none h2
    refine ⟨fun hB => ?_, fun hB => ?_⟩
    · have := hB.1.2.1.2.1
      rw [e] at this; exact Tw.not_isT_nil this
    · have := hB.1.1.1.2.1
      rw [e] at this; exact Tw.not_isT_nil this
  · have e := Tw.mat_none h1
    refine ⟨fun hB => ?_, fun hB => ?_⟩
    · have := hB.1.1.1.2.1
      rw [e] at this; exact Tw.not_isT_nil this
    · have := hB.1.1.1.1
      rw [e] at this; exact Tw.not_isT_nil this
set_option maxRecDepth 10000 in
set_option maxHeartbeats 2000000 in
theorem spec_BraidHolds (g : Int) (ac : Option Addr) (kc : Nat) (c : List Int) (ad : Option Addr) (kd : Nat) (d : List Int) (w : World) (rc : RowAt w ac (intCells c)) (lc : c.length ≤ 1048576) (rd : RowAt w ad (intCells d)) (ld : d.length ≤ 1048576) :
    Calls Tryd.prog 37 #[.int .i64 g, .slice ac c.length kc, .slice ad d.length kd] w fun e w' => e = .returned (.bool (decide (Tw.Braid g c d))) ∧ Below w.heap.size w w' := by
  have Mc := Lib.hid (spec_TwistMatrix g ac kc c w rc lc)
  have Md := Lib.hid (fun W (hb : Below w.heap.size w W) => spec_TwistMatrix g ad kd d W (rd.below hb) ld)
  have Fc := Lib.hid (Tw.mat_few g c); have Fd := Lib.hid (Tw.mat_few g d)
  have Hbad := Lib.hid (fun h => Tw.braid_bad (g := g) (c := c) (d := d) h)
  by_cases hmc : Tw.MatOk g c
  · rw [decide_eq_true hmc] at Mc
    by_cases hmd : Tw.MatOk g d
    · simp only [decide_eq_true hmd] at Md
      rw [Tw.braid_dec]
      have G1 := Lib.hid (Tw.times_few (Tw.times (Tw.mat g c) (Tw.mat g d)) (Tw.mat g c))
      have G2 := Lib.hid (Tw.times_few (Tw.times (Tw.mat g d) (Tw.mat g c)) (Tw.mat g d))
      have T1 := Lib.hid (fun W (ra sa : Option Addr) (rc sc : Nat) (h1 : GridAt W ra (Tw.mat g c)) (h2 : GridAt W sa (Tw.mat g d)) => spec_l11Three ra sa ra rc sc rc (Tw.mat g c) (Tw.mat g d) (Tw.mat g c) W Fc.out Fd.out Fc.out h1 h2 h1)
      have T2 := Lib.hid (fun W (ra sa : Option Addr) (rc sc : Nat) (h1 : GridAt W ra (Tw.mat g c)) (h2 : GridAt W sa (Tw.mat g d)) => spec_l11Three sa ra sa sc rc sc (Tw.mat g d) (Tw.mat g c) (Tw.mat g d) W Fd.out Fc.out Fd.out h2 h1 h2)
      have S0 := Lib.hid (fun W (pa qa : Option Addr) (pc qc : Nat) (h1 : GridAt W pa (Tw.times (Tw.times (Tw.mat g c) (Tw.mat g d)) (Tw.mat g c))) (h2 : GridAt W qa (Tw.times (Tw.times (Tw.mat g d) (Tw.mat g c)) (Tw.mat g d))) => spec_l11Same pa qa pc qc (Tw.times (Tw.times (Tw.mat g c) (Tw.mat g d)) (Tw.mat g c)) (Tw.times (Tw.times (Tw.mat g d) (Tw.mat g c)) (Tw.mat g d)) W h1 h2 G1.out G2.out)
      generalize decide ((Tw.times (Tw.times (Tw.mat g c) (Tw.mat g d)) (Tw.mat g c)) = (Tw.times (Tw.times (Tw.mat g d) (Tw.mat g c)) (Tw.mat g d))) = q at *
      generalize decide (Tw.TimesOk (Tw.times (Tw.mat g c) (Tw.mat g d)) (Tw.mat g c)) = k1 at *
      generalize decide (Tw.TimesOk (Tw.times (Tw.mat g d) (Tw.mat g c)) (Tw.mat g d)) = k2 at *
      generalize Tw.times (Tw.times (Tw.mat g c) (Tw.mat g d)) (Tw.mat g c) = R1 at *
      generalize Tw.times (Tw.times (Tw.mat g d) (Tw.mat g c)) (Tw.mat g d) = R2 at *
      generalize Tw.mat g c = A at *
      generalize Tw.mat g d = B at *
      clear rc rd Hbad hmc hmd
      go_enter Tryd.func37, Tryd.ntmps37
      go_wp2_with fail
      refine Mc.out.mono ?_
      rintro e w1 ⟨ra, rc, rfl, _, _, hg1, hb1⟩
      have Hg1 := Lib.hid hg1.grid; have Hb1 := Lib.hid hb1; clear hg1 hb1
      go_wp2_with fail
      refine (Md.out w1 Hb1.out).mono ?_
      rintro e w2 ⟨sa, sc, rfl, _, _, hg2, hb2⟩
      have Hg2 := Lib.hid hg2.grid; have Hg1b := Lib.hid (Hg1.out.below hb2); have Hb2 := Lib.hid (Hb1.out.trans (hb2.mono Hb1.out.size)); clear hg2 hb2
      go_wp2_with fail
      refine (T1.out w2 ra sa rc sc Hg1b.out Hg2.out).mono ?_
      rintro e w3 ⟨pa, pc, rfl, _, _, hg3, hb3⟩
      have Hp3 := Lib.hid hg3.grid; have Hg1c := Lib.hid (Hg1b.out.below hb3); have Hg2c := Lib.hid (Hg2.out.below hb3); have Hb3 := Lib.hid (Hb2.out.trans (hb3.mono Hb2.out.size)); clear hg3 hb3
      go_wp2_with fail
      refine (T2.out w3 ra sa rc sc Hg1c.out Hg2c.out).mono ?_
      rintro e w4 ⟨qa, qc, rfl, _, _, hg4, hb4⟩
      have Hq4 := Lib.hid hg4.grid; have Hp4 := Lib.hid (Hp3.out.below hb4); have Hb4 := Lib.hid (Hb3.out.trans (hb4.mono Hb3.out.size)); clear hg4 hb4
      cases k1 with
      | false =>
        go_wp2
        go_ret
        exact ⟨rfl, Hb4.out⟩
      | true =>
        cases k2 with
        | false =>
          go_wp2
          go_ret
          exact ⟨rfl, Hb4.out⟩
        | true =>
          go_wp2_with fail
          refine (S0.out w4 pa qa pc qc Hp4.out Hq4.out).mono ?_
          rintro e w5 ⟨rfl, hb5⟩
          have Hb5 := Lib.hid (Hb4.out.trans (hb5.mono Hb4.out.size)); clear hb5
          go_wp2
          go_ret
          exact ⟨by simp, Hb5.out⟩
    · have hno := (Hbad.out fun h => hmd h.2).1
      simp only [decide_eq_false hmd] at Md
      rw [decide_eq_false hno]
      clear rc rd Hbad hmc hmd hno
      go_enter Tryd.func37, Tryd.ntmps37
      go_wp2_with fail
      refine Mc.out.mono ?_
      rintro e w1 ⟨ra, rc, rfl, _, _, hg1, hb1⟩
      have Hb1 := Lib.hid hb1; clear hg1 hb1
      go_wp2_with fail
      refine (Md.out w1 Hb1.out).mono ?_
      rintro e w2 ⟨sa, sc, rfl, _, _, hg2, hb2⟩
      have Hb2 := Lib.hid (Hb1.out.trans (hb2.mono Hb1.out.size)); clear hg2 hb2
      go_wp2
      go_ret
      exact ⟨rfl, Hb2.out⟩
  · have hno := (Hbad.out fun h => hmc h.1).1
    rw [decide_eq_false hmc] at Mc
    rw [decide_eq_false hno]
    generalize decide (Tw.MatOk g d) = okd at *
    clear rc rd Hbad hmc hno
    go_enter Tryd.func37, Tryd.ntmps37
    go_wp2_with fail
    refine Mc.out.mono ?_
    rintro e w1 ⟨ra, rc, rfl, _, _, hg1, hb1⟩
    have Hb1 := Lib.hid hb1; clear hg1 hb1
    go_wp2_with fail
    refine (Md.out w1 Hb1.out).mono ?_
    rintro e w2 ⟨sa, sc, rfl, _, _, hg2, hb2⟩
    have Hb2 := Lib.hid (Hb1.out.trans (hb2.mono Hb1.out.size)); clear hg2 hb2
    go_wp2
    go_ret
    exact ⟨rfl, Hb2.out⟩
set_option maxRecDepth 10000 in
set_option maxHeartbeats 2000000 in
theorem spec_CommuteHolds (g : Int) (ac : Option Addr) (kc : Nat) (c : List Int) (ad : Option Addr) (kd : Nat) (d : List Int) (w : World) (rc : RowAt w ac (intCells c)) (lc : c.length ≤ 1048576) (rd : RowAt w ad (intCells d)) (ld : d.length ≤ 1048576) :
    Calls Tryd.prog 39 #[.int .i64 g, .slice ac c.length kc, .slice ad d.length kd] w fun e w' => e = .returned (.bool (decide (Tw.Comm g c d))) ∧ Below w.heap.size w w' := by
  have Mc := Lib.hid (spec_TwistMatrix g ac kc c w rc lc)
  have Md := Lib.hid (fun W (hb : Below w.heap.size w W) => spec_TwistMatrix g ad kd d W (rd.below hb) ld)
  have Fc := Lib.hid (Tw.mat_few g c); have Fd := Lib.hid (Tw.mat_few g d)
  have Hbad := Lib.hid (fun h => Tw.braid_bad (g := g) (c := c) (d := d) h)
  by_cases hmc : Tw.MatOk g c
  · rw [decide_eq_true hmc] at Mc
    by_cases hmd : Tw.MatOk g d
    · simp only [decide_eq_true hmd] at Md
      rw [Tw.comm_dec]
      have G1 := Lib.hid (Tw.times_few (Tw.mat g c) (Tw.mat g d))
      have G2 := Lib.hid (Tw.times_few (Tw.mat g d) (Tw.mat g c))
      have T1 := Lib.hid (fun W (ra sa : Option Addr) (rc sc : Nat) (h1 : GridAt W ra (Tw.mat g c)) (h2 : GridAt W sa (Tw.mat g d)) => spec_TimesTable ra rc (Tw.mat g c) sa sc (Tw.mat g d) W h1 Fc.out.rows.1 Fc.out.rows.2 h2 Fd.out.rows.1 Fd.out.rows.2)
      have T2 := Lib.hid (fun W (ra sa : Option Addr) (rc sc : Nat) (h1 : GridAt W ra (Tw.mat g c)) (h2 : GridAt W sa (Tw.mat g d)) => spec_TimesTable sa sc (Tw.mat g d) ra rc (Tw.mat g c) W h2 Fd.out.rows.1 Fd.out.rows.2 h1 Fc.out.rows.1 Fc.out.rows.2)
      have S0 := Lib.hid (fun W (pa qa : Option Addr) (pc qc : Nat) (h1 : GridAt W pa (Tw.times (Tw.mat g c) (Tw.mat g d))) (h2 : GridAt W qa (Tw.times (Tw.mat g d) (Tw.mat g c))) => spec_l11Same pa qa pc qc (Tw.times (Tw.mat g c) (Tw.mat g d)) (Tw.times (Tw.mat g d) (Tw.mat g c)) W h1 h2 G1.out G2.out)
      generalize decide ((Tw.times (Tw.mat g c) (Tw.mat g d)) = (Tw.times (Tw.mat g d) (Tw.mat g c))) = q at *
      generalize decide (Tw.TimesOk (Tw.mat g c) (Tw.mat g d)) = k1 at *
      generalize decide (Tw.TimesOk (Tw.mat g d) (Tw.mat g c)) = k2 at *
      generalize Tw.times (Tw.mat g c) (Tw.mat g d) = R1 at *
      generalize Tw.times (Tw.mat g d) (Tw.mat g c) = R2 at *
      generalize Tw.mat g c = A at *
      generalize Tw.mat g d = B at *
      clear rc rd Hbad hmc hmd
      go_enter Tryd.func39, Tryd.ntmps39
      go_wp2_with fail
      refine Mc.out.mono ?_
      rintro e w1 ⟨ra, rc, rfl, _, _, hg1, hb1⟩
      have Hg1 := Lib.hid hg1.grid; have Hb1 := Lib.hid hb1; clear hg1 hb1
      go_wp2_with fail
      refine (Md.out w1 Hb1.out).mono ?_
      rintro e w2 ⟨sa, sc, rfl, _, _, hg2, hb2⟩
      have Hg2 := Lib.hid hg2.grid; have Hg1b := Lib.hid (Hg1.out.below hb2); have Hb2 := Lib.hid (Hb1.out.trans (hb2.mono Hb1.out.size)); clear hg2 hb2
      go_wp2_with fail
      refine (T1.out w2 ra sa rc sc Hg1b.out Hg2.out).mono ?_
      rintro e w3 ⟨pa, pc, rfl, _, _, hg3, hb3⟩
      have Hp3 := Lib.hid hg3.grid; have Hg1c := Lib.hid (Hg1b.out.below hb3); have Hg2c := Lib.hid (Hg2.out.below hb3); have Hb3 := Lib.hid (Hb2.out.trans (hb3.mono Hb2.out.size)); clear hg3 hb3
      go_wp2_with fail
      refine (T2.out w3 ra sa rc sc Hg1c.out Hg2c.out).mono ?_
      rintro e w4 ⟨qa, qc, rfl, _, _, hg4, hb4⟩
      have Hq4 := Lib.hid hg4.grid; have Hp4 := Lib.hid (Hp3.out.below hb4); have Hb4 := Lib.hid (Hb3.out.trans (hb4.mono Hb3.out.size)); clear hg4 hb4
      cases k1 with
      | false =>
        go_wp2
        go_ret
        exact ⟨rfl, Hb4.out⟩
      | true =>
        cases k2 with
        | false =>
          go_wp2
          go_ret
          exact ⟨rfl, Hb4.out⟩
        | true =>
          go_wp2_with fail
          refine (S0.out w4 pa qa pc qc Hp4.out Hq4.out).mono ?_
          rintro e w5 ⟨rfl, hb5⟩
          have Hb5 := Lib.hid (Hb4.out.trans (hb5.mono Hb4.out.size)); clear hb5
          go_wp2
          go_ret
          exact ⟨by simp, Hb5.out⟩
    · have hno := (Hbad.out fun h => hmd h.2).2
      simp only [decide_eq_false hmd] at Md
      rw [decide_eq_false hno]
      clear rc rd Hbad hmc hmd hno
      go_enter Tryd.func39, Tryd.ntmps39
      go_wp2_with fail
      refine Mc.out.mono ?_
      rintro e w1 ⟨ra, rc, rfl, _, _, hg1, hb1⟩
      have Hb1 := Lib.hid hb1; clear hg1 hb1
      go_wp2_with fail
      refine (Md.out w1 Hb1.out).mono ?_
      rintro e w2 ⟨sa, sc, rfl, _, _, hg2, hb2⟩
      have Hb2 := Lib.hid (Hb1.out.trans (hb2.mono Hb1.out.size)); clear hg2 hb2
      go_wp2
      go_ret
      exact ⟨rfl, Hb2.out⟩
  · have hno := (Hbad.out fun h => hmc h.1).2
    rw [decide_eq_false hmc] at Mc
    rw [decide_eq_false hno]
    generalize decide (Tw.MatOk g d) = okd at *
    clear rc rd Hbad hmc hno
    go_enter Tryd.func39, Tryd.ntmps39
    go_wp2_with fail
    refine Mc.out.mono ?_
    rintro e w1 ⟨ra, rc, rfl, _, _, hg1, hb1⟩
    have Hb1 := Lib.hid hb1; clear hg1 hb1
    go_wp2_with fail
    refine (Md.out w1 Hb1.out).mono ?_
    rintro e w2 ⟨sa, sc, rfl, _, _, hg2, hb2⟩
    have Hb2 := Lib.hid (Hb1.out.trans (hb2.mono Hb1.out.size)); clear hg2 hb2
    go_wp2
    go_ret
    exact ⟨rfl, Hb2.out⟩
end Go.Proofs.YtamgimdjnmcpaaaDoor
