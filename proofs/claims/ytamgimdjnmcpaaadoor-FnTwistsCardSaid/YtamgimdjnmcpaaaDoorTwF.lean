/-
  The walks of the program's commonDivisor, IsPrimitiveClass and IsSymplectic.
-/
import Derived.Test.YtamgimdjnmcpaaaDoorBase
import Derived.Test.YtamgimdjnmcpaaaDoorSlice
import Derived.Test.YtamgimdjnmcpaaaDoorIntRow
import Derived.Test.YtamgimdjnmcpaaaDoorInts
import Derived.Test.YtamgimdjnmcpaaaDoorOwn
import Derived.Test.YtamgimdjnmcpaaaDoorGrid
import Derived.Test.YtamgimdjnmcpaaaDoorGridRows
import Derived.Test.YtamgimdjnmcpaaaDoorGivesRows
import Derived.Test.YtamgimdjnmcpaaaDoorTw
import Derived.Test.YtamgimdjnmcpaaaDoorTwErr
import Derived.Test.YtamgimdjnmcpaaaDoorTwA
import Derived.Test.YtamgimdjnmcpaaaDoorTwB
import Derived.Test.YtamgimdjnmcpaaaDoorTwC
import Derived.Test.YtamgimdjnmcpaaaDoorTwD
import Derived.Deep.QuietTactic
import Derived.Deep.RegionHeld3
import Derived.BigQuiet
namespace Go.Proofs.YtamgimdjnmcpaaaDoor
open Go.RowKit

theorem Tw.tmod_lt {d n : Int} (h : n ≠ 0) : (d.tmod n).natAbs < n.natAbs := by
  rw [Int.natAbs_tmod]; exact Nat.mod_lt _ (by omega)
set_option maxRecDepth 10000 in
set_option maxHeartbeats 1000000 in
theorem impl_commonDivisor (a : Option Addr) (c : Nat) (l : List Int) (w : World) (ha : RowAt w a (intCells l)) (hF : Tw.Fits l) (hl : l.length ≤ 1048576) :
    Calls Tryd.prog 68 #[.slice a l.length c] w fun e w' => e = .returned (.int .i64 ((Tw.gcd l : Nat) : Int)) ∧ Below w.heap.size w w' := by
  have Ha := Lib.hid ha; have HF := Lib.hid hF
  clear ha hF
  go_enter Tryd.func68, Tryd.ntmps68
  go_wp2
  go_loopw [3, 5, 8] (fun dv _ iv wr => ∃ i : Nat, i ≤ l.length ∧ iv = .int .i64 i ∧ ∃ d : Int, dv = .int .i64 d ∧ -1000 ≤ d ∧ d ≤ 1000 ∧ Hid (d.natAbs = Tw.gcd (l.take i)) ∧ Hid (Below w.heap.size w wr)) (fun _ _ iv _ => l.length - (intOf iv).toNat)
  case atStart => exact ⟨0, by omega, rfl, 0, rfl, by omega, by omega, Lib.hid rfl, Lib.hid (Below.refl _ _)⟩
  case round =>
    obtain ⟨i, hi, rfl, d, rfl, hd0, hd1, hdg, hb⟩ := hrel
    by_cases hlt : i < l.length
    · obtain ⟨b, o, eb, hbw, hcell⟩ := intCells_get? (Ha.out.below hb.out) (Tw.get?_nth hlt)
      subst eb
      have hx := HF.out.nth i
      have Hst := Lib.hid (Tw.gcd_take (Tw.get?_nth hlt))
      obtain ⟨x, hxe⟩ : ∃ x, Tw.nth l i = x := ⟨_, rfl⟩
      rw [hxe] at hcell hx Hst
      clear hxe
      obtain ⟨wo, hwo⟩ : ∃ wo : World, wo = wr := ⟨_, rfl⟩
      subst hwo
      have i0 : (0 : Int) ≤ (i : Int) := by omega
      have i1 : (i : Int) < (l.length : Int) := by omega
      go_wp2
      go_loopw [3, 5] (fun dv nv wr => ∃ d n : Int, dv = .int .i64 d ∧ nv = .int .i64 n ∧ -1000 ≤ d ∧ d ≤ 1000 ∧ -1000 ≤ n ∧ n ≤ 1000 ∧ Hid (Nat.gcd d.natAbs n.natAbs = Tw.gcd (l.take (i + 1))) ∧ Hid (Below w.heap.size w wr)) (fun _ nv _ => (intOf nv).natAbs)
      case atStart => exact ⟨d, x, rfl, rfl, hd0, hd1, hx.1, hx.2, Lib.hid (by rw [Hst.out, hdg.out]), hb⟩
      case round =>
        obtain ⟨d, n, rfl, rfl, k0, k1, k2, k3, hg, hb⟩ := hrel
        by_cases hn : n = 0
        · subst hn
          have t1 : ((0 : Int) != 0) = false := by decide
          go_wp2
          go_roundw
          case rel => exact ⟨i + 1, by omega, by go_num, d, rfl, k0, k1, Lib.hid (by rw [← hg.out]; simp), hb⟩
          case measure => simp [intOf]; omega
        · have t1 : (n != 0) = true := by simp [hn]
          have hlt2 := Tw.tmod_lt (d := d) hn
          have hgs := Tw.gcd_step d n
          obtain ⟨r, hr⟩ : ∃ r, d.tmod n = r := ⟨_, rfl⟩
          rw [hr] at hlt2 hgs
          have e1 : IntKind.i64.wrap (d.tmod n) = r := by rw [hr]; exact wrap_small (by omega) (by omega)
          have Hgs := Lib.hid hgs; have Hlt2 := Lib.hid hlt2
          have r0 : -1000 ≤ r := by omega
          have r1 : r ≤ 1000 := by omega
          clear hgs hlt2
          go_wp2
          go_quiet (fail)
          all_goals go_wp2
          all_goals
            go_roundw
            case rel => exact ⟨n, r, rfl, by first | rfl | simp [e1] | (rw [hr]), k2, k3, r0, r1, Lib.hid (by rw [Hgs.out]; exact hg.out), Lib.hid (below_drewN hb.out _)⟩
            case measure => have := Hlt2.out; simp [intOf]; omega
    · obtain rfl : i = l.length := by omega
      rw [List.take_of_length_le (Nat.le_refl _)] at hdg
      have e1 : IntKind.i64.wrap (-d) = -d := wrap_small (by omega) (by omega)
      go_wp2
      go_ret
      refine ⟨?_, hb.out⟩
      have hm : max d (-d) = ((Tw.gcd l : Nat) : Int) := by have := hdg.out; omega
      first
        | (rw [← hm]; rfl)
        | (have h2 : (if d < -d then -d else d) = ((Tw.gcd l : Nat) : Int) := by (split <;> omega)
           rw [← h2]; rfl)
set_option maxRecDepth 10000 in
theorem impl_IsPrimitiveClass (g : Int) (a : Option Addr) (c : Nat) (l : List Int) (w : World) (hE : Errs w) (ha : RowAt w a (intCells l)) (hl : l.length ≤ 1048576) :
    Calls Tryd.prog 34 #[.int .i64 g, .slice a l.length c] w fun e w' => e = .returned (.bool (decide (Tw.Prim g l))) ∧ Below w.heap.size w w' := by
  have hC := impl_IsClass g a c l w hE ha hl
  by_cases cC : Tw.IsC g l
  · rw [decide_eq_true cC] at hC
    have hG := fun W (hb : Below w.heap.size w W) => impl_commonDivisor a c l W (ha.below hb) cC.2.2 hl
    have hd : decide (Tw.Prim g l) = (((Tw.gcd l : Nat) : Int) == 1) := by
      rw [Bool.eq_iff_iff, decide_eq_true_iff, beq_iff_eq]
      exact ⟨fun h => by rw [h.2]; rfl, fun h => ⟨cC, by omega⟩⟩
    rw [hd]
    generalize ((Tw.gcd l : Nat) : Int) = G at *
    have HC := Lib.hid hC; have HG := Lib.hid hG
    clear hC hG hd cC hE ha
    obtain ⟨v, hv⟩ : ∃ v, (G == 1) = v := ⟨_, rfl⟩
    rw [hv]
    go_enter Tryd.func34, Tryd.ntmps34
    go_wp2_with fail
    refine HC.out.mono ?_
    rintro e w1 ⟨rfl, hb1⟩
    have Hb1 := Lib.hid hb1; clear hb1
    go_wp2_with fail
    refine (HG.out w1 Hb1.out).mono ?_
    rintro e w2 ⟨rfl, hb2⟩
    have Hb2 := Lib.hid (Hb1.out.trans (hb2.mono Hb1.out.size)); clear hb2
    go_wp2
    go_ret
    exact ⟨rfl, Hb2.out⟩
  · rw [decide_eq_false cC] at hC
    rw [decide_eq_false fun h : Tw.Prim g l => cC h.1]
    have HC := Lib.hid hC
    clear hC cC hE ha
    go_enter Tryd.func34, Tryd.ntmps34
    go_wp2_with fail
    refine HC.out.mono ?_
    rintro e w1 ⟨rfl, hb1⟩
    have Hb1 := Lib.hid hb1; clear hb1
    go_wp2
    go_ret
    exact ⟨rfl, Hb1.out⟩
theorem Tw.held_on {S : World → Prop} {W0 W v : World} (mk : ∀ w2, Below W0.heap.size W0 w2 → S w2) (h : S W) (pr : S W → Below W0.heap.size W0 W) (hb : Below W.heap.size W v) : S v := mk v ((pr h).trans (hb.mono (pr h).size))
set_option maxRecDepth 10000 in
set_option maxHeartbeats 2000000 in
theorem impl_IsSymplectic (g : Int) (a : Option Addr) (c : Nat) (T : List (List Int)) (w : World) (hE : Errs w) (ha : GridAt w a T) (hn : T.length ≤ 1048576) (hT : ∀ r ∈ T, r.length ≤ 1048576) :
    Calls Tryd.prog 29 #[.int .i64 g, .slice a T.length c] w fun e w' => e = .returned (.bool (decide (Tw.IsSym g T))) ∧ Below w.heap.size w w' := by
  have hC := impl_haveClasses g w
  by_cases hg : 1 ≤ g ∧ g ≤ 3
  · rw [decide_eq_true hg] at hC
    have e1 : IntKind.i64.wrap (2 * g) = 2 * g := wrap_small (by omega) (by omega)
    by_cases hl2 : (T.length : Int) = 2 * g
    · have t1 : ((T.length : Int) != 2 * g) = false := by simp [hl2]
      have hI := impl_isTable a c T w hE ha hn hT
      by_cases cT : Tw.IsT T
      · rw [decide_eq_true cT] at hI
        obtain ⟨n, hnn⟩ : ∃ n, T.length = n := ⟨_, rfl⟩
        have hU := fun W => impl_unitClasses g n W (by rw [← hnn]; exact hl2) (by omega)
        have hK := fun W (hb : Below w.heap.size w W) => impl_columnsOf a c T W (ha.below hb) (fun r hr => (cT.2 r hr).1) (by have := cT.1.2; omega)
        have hd : decide (Tw.IsSym g T) = decide (∀ p, p < n → ∀ q, q < n → Tw.form (Tw.col T p) (Tw.col T q) = Tw.form (Tw.unit n p) (Tw.unit n q)) :=
          decide_eq_decide.2 ⟨fun h => by have := h.2.2.2; rw [hnn] at this; exact this, fun h => ⟨hg, hl2, cT, by rw [hnn]; exact h⟩⟩
        have hF := fun (W : World) (hb : Below w.heap.size w W) (p q : Nat) (ap aq : Option Addr) (cp cq : Nat) (h1 : RowAt W ap (intCells (Tw.col T p))) (h2 : RowAt W aq (intCells (Tw.col T q))) => impl_FormOf g ap cp (Tw.col T p) aq cq (Tw.col T q) W (hE.keeps hb) h1 (by rw [Tw.col_len]; omega) h2 (by rw [Tw.col_len]; omega)
        have hG := fun (W : World) (hb : Below w.heap.size w W) (p q : Nat) (ap aq : Option Addr) (cp cq : Nat) (h1 : RowAt W ap (intCells (Tw.unit n p))) (h2 : RowAt W aq (intCells (Tw.unit n q))) => impl_FormOf g ap cp (Tw.unit n p) aq cq (Tw.unit n q) W (hE.keeps hb) h1 (by rw [Tw.unit_len]; omega) h2 (by rw [Tw.unit_len]; omega)
        have hcc : ∀ p, Tw.IsC g (Tw.col T p) := fun p => ⟨hg, by rw [Tw.col_len]; exact hl2, Tw.col_fits cT p⟩
        have huc : ∀ p, Tw.IsC g (Tw.unit n p) := fun p => Tw.unit_isC hg (by rw [← hnn]; exact hl2) p
        simp only [Tw.formOf_of (hcc _) (hcc _), Tw.col_len, hnn] at hF
        simp only [Tw.formOf_of (huc _) (huc _), Tw.unit_len] at hG
        have hug : ∀ p, p < n → (Tw.units n n)[p]? = some (Tw.unit n p) := fun p hp => by unfold Tw.units; simp [hp]
        have hkg : ∀ p, p < n → (Tw.cols T)[p]? = some (Tw.col T p) := fun p hp => Tw.cols_get (by rw [hnn]; exact hp)
        have hn6 : n ≤ 6 := by omega
        rw [hd]
        have HC := Lib.hid hC; have HI := Lib.hid hI; have HU := Lib.hid hU; have HK := Lib.hid hK; have HF := Lib.hid hF; have HG := Lib.hid hG; have Hug := Lib.hid hug; have Hkg := Lib.hid hkg
        have Hcl := Lib.hid (show (Tw.cols T).length = n by rw [Tw.cols_len, hnn]); have Hul := Lib.hid (Tw.units_len n n)
        have Hn := Lib.hid hnn
        rw [hnn] at t1 ⊢
        rw [hnn] at HI
        clear hC hI hU hK hF hG hug hkg hd hcc huc cT hE ha hT hl2 hg hn hnn
        go_enter Tryd.func29, Tryd.ntmps29
        go_wp2_with fail
        refine HC.out.mono ?_
        rintro e w1 ⟨rfl, hw⟩
        rw [hw]; clear hw w1
        go_wp2_with fail
        refine HI.out.mono ?_
        rintro e w2 ⟨rfl, hb2⟩
        have Hb2 := Lib.hid hb2; clear hb2
        go_wp2_with fail
        refine (HU.out w2).mono ?_
        rintro e w3 ⟨ua, uc, rfl, _, _, hg3, hb3⟩
        have Hg3 := Lib.hid hg3.grid; have Hb3 := Lib.hid (Hb2.out.trans (hb3.mono Hb2.out.size)); clear hg3 hb3
        rw [Hul.out]
        have hk3 := HK.out w3 Hb3.out
        rw [Hn.out] at hk3
        go_wp2_with fail
        refine hk3.mono ?_
        rintro e w4 ⟨ka, kc, rfl, _, _, hg4, hb4⟩
        have Hg4 := Lib.hid hg4.grid; have Hu4 := Lib.hid (Hg3.out.below hb4); have Hb4 := Lib.hid (Hb3.out.trans (hb4.mono Hb3.out.size)); clear hg4 hb4 hk3
        rw [Hcl.out]
        go_wp2
        go_loopw [4, 7, 8, 30] (fun rv _ _ iv wr => rv = .bool false ∧ ∃ i : Nat, i ≤ n ∧ iv = .int .i64 i ∧ Hid (∀ p, p < i → ∀ q, q < n → Tw.form (Tw.col T p) (Tw.col T q) = Tw.form (Tw.unit n p) (Tw.unit n q)) ∧ Hid (Below w4.heap.size w4 wr)) (fun _ _ _ iv _ => n - (intOf iv).toNat)
        case atStart => exact ⟨rfl, 0, by omega, rfl, Lib.hid (fun p hp => by omega), Lib.hid (Below.refl _ _)⟩
        case round =>
          obtain ⟨rfl, i, hi, rfl, hall, hb⟩ := hrel
          by_cases hlt : i < n
          · obtain ⟨wo, hwo⟩ : ∃ wo : World, wo = wr := ⟨_, rfl⟩
            subst hwo
            go_wp2
            go_loopw [4, 8, 35] (fun rv _ jv wr => rv = .bool false ∧ ∃ j : Nat, j ≤ n ∧ jv = .int .i64 j ∧ Hid (∀ q, q < j → Tw.form (Tw.col T i) (Tw.col T q) = Tw.form (Tw.unit n i) (Tw.unit n q)) ∧ Hid (Below w4.heap.size w4 wr)) (fun _ _ jv _ => n - (intOf jv).toNat)
            case atStart => exact ⟨rfl, 0, by omega, rfl, Lib.hid (fun p hp => by omega), hb⟩
            case round =>
              obtain ⟨rfl, j, hj, rfl, hallj, hb⟩ := hrel
              by_cases hjt : j < n
              · obtain ⟨b1, o1, aI, cI, e1', hw1, hc1, hr1⟩ := Hg4.out.get (Hkg.out i hlt)
                obtain ⟨b2, o2, aJ, cJ, e2', hw2, hc2, hr2⟩ := Hg4.out.get (Hkg.out j hjt)
                obtain ⟨b3, o3, uI, dI, e3', hw3, hc3, hr3⟩ := Hu4.out.get (Hug.out i hlt)
                obtain ⟨b4, o4, uJ, dJ, e4', hw4, hc4, hr4⟩ := Hu4.out.get (Hug.out j hjt)
                subst e1'; cases e2'; subst e3'; cases e4'
                rw [Tw.col_len, Hn.out] at hc1 hc2
                rw [Tw.unit_len] at hc3 hc4
                have hmk : ∀ W, Below w4.heap.size w4 W → W.cell? ⟨b1, o1 + i, none⟩ = some (.slice aI n cI) ∧ W.cell? ⟨b1, o1 + j, none⟩ = some (.slice aJ n cJ) ∧ W.cell? ⟨b3, o3 + i, none⟩ = some (.slice uI n dI) ∧ W.cell? ⟨b3, o3 + j, none⟩ = some (.slice uJ n dJ) ∧ Below w4.heap.size w4 W := fun W h => ⟨by rw [h.cell hw1]; exact hc1, by rw [h.cell hw2]; exact hc2, by rw [h.cell hw3]; exact hc3, by rw [h.cell hw4]; exact hc4, h⟩
                have HFi := Lib.hid (fun W (h : Below w4.heap.size w4 W) => HF.out W (Hb4.out.trans (h.mono Hb4.out.size)) i j aI aJ cI cJ (hr1.below h) (hr2.below h))
                have HGi := Lib.hid (fun W (h : Below w4.heap.size w4 W) => HG.out W (Hb4.out.trans (h.mono Hb4.out.size)) i j uI uJ dI dJ (hr3.below h) (hr4.below h))
                have Hmk := Lib.hid hmk
                have Hpr := Lib.hid (fun (W : World) (h : W.cell? ⟨b1, o1 + i, none⟩ = some (.slice aI n cI) ∧ W.cell? ⟨b1, o1 + j, none⟩ = some (.slice aJ n cJ) ∧ W.cell? ⟨b3, o3 + i, none⟩ = some (.slice uI n dI) ∧ W.cell? ⟨b3, o3 + j, none⟩ = some (.slice uJ n dJ) ∧ Below w4.heap.size w4 W) => h.2.2.2.2)
                have i0 : (0 : Int) ≤ (i : Int) := by omega
                have i1 : (i : Int) < (n : Int) := by omega
                have j0 : (0 : Int) ≤ (j : Int) := by omega
                have j1 : (j : Int) < (n : Int) := by omega
                have HS0 := Lib.hid (hmk _ (Below.drew hb.out))
                clear hmk hc1 hc2 hc3 hc4 hr1 hr2 hr3 hr4 hw1 hw2 hw3 hw4
                obtain ⟨X, hX⟩ : ∃ X, Tw.form (Tw.col T i) (Tw.col T j) = X := ⟨_, rfl⟩
                obtain ⟨Y, hY⟩ : ∃ Y, Tw.form (Tw.unit n i) (Tw.unit n j) = Y := ⟨_, rfl⟩
                rw [hX] at HFi; rw [hY] at HGi
                have HX := Lib.hid hX; have HY := Lib.hid hY
                clear hX hY
                obtain ⟨v, hv⟩ : ∃ v, (X != Y) = v := ⟨_, rfl⟩
                go_wp2
                go_region_held3 (fun w' => w'.cell? ⟨b1, o1 + i, none⟩ = some (.slice aI n cI) ∧ w'.cell? ⟨b1, o1 + j, none⟩ = some (.slice aJ n cJ) ∧ w'.cell? ⟨b3, o3 + i, none⟩ = some (.slice uI n dI) ∧ w'.cell? ⟨b3, o3 + j, none⟩ = some (.slice uJ n dJ) ∧ Below w4.heap.size w4 w') (first | (with_reducible assumption) | (with_reducible exact HS0.out))
                  (first
                  | (go_at_call_of 26 aI; refine (HFi.out _ (Hpr.out _ (by assumption))).mono ?_; rintro e v0 ⟨rfl, hb0⟩; have hS0 := Tw.held_on Hmk.out (by assumption) (fun h => Hpr.out _ h) hb0; have hl0 := Lib.hid (Hpr.out _ hS0); clear hb0)
                  | (go_at_call_of 26 uI; refine (HGi.out _ (Hpr.out _ (by assumption))).mono ?_; rintro e v1 ⟨rfl, hb0⟩; have hS1 := Tw.held_on Hmk.out (by assumption) (fun h => Hpr.out _ h) hb0; have hl1 := Lib.hid (Hpr.out _ hS1); clear hb0))
                all_goals
                  clear hS0 hS1 HS0 HFi HGi
                  cases v with
                  | false =>
                    have Hxy := Lib.hid (show X = Y by simpa using hv)
                    go_wp2
                    go_roundw
                    case rel => exact ⟨rfl, j + 1, by omega, by go_num, Lib.hid (fun q hq => by
                      rcases Nat.lt_or_ge q j with h | h
                      · exact hallj.out q h
                      · obtain rfl : q = j := by omega
                        rw [HX.out, HY.out, Hxy.out]), by first | exact hl0 | exact hl1⟩
                    case measure => simp [intOf]; omega
                  | true =>
                    have Hno := Lib.hid (show decide (∀ p, p < n → ∀ q, q < n → Tw.form (Tw.col T p) (Tw.col T q) = Tw.form (Tw.unit n p) (Tw.unit n q)) = false from decide_eq_false fun h => by
                      have h1 := h i hlt j hjt
                      rw [HX.out, HY.out] at h1
                      rw [h1] at hv; simp at hv)
                    go_wp2
                    go_ret
                    refine ⟨by rw [Hno.out]; rfl, ?_⟩
                    first | exact Hb4.out.trans (hl0.out.mono Hb4.out.size) | exact Hb4.out.trans (hl1.out.mono Hb4.out.size)
              · obtain rfl : j = n := by omega
                go_wp2
                go_roundw
                case rel => exact ⟨rfl, i + 1, by omega, by go_num, Lib.hid (fun p hp q hq => by
                  rcases Nat.lt_or_ge p i with h | h
                  · exact hall.out p h q hq
                  · obtain rfl : p = i := by omega
                    exact hallj.out q hq), hb⟩
                case measure => simp [intOf]; omega
          · obtain rfl : i = n := by omega
            have Hd := Lib.hid (show decide (∀ p, p < i → ∀ q, q < i → Tw.form (Tw.col T p) (Tw.col T q) = Tw.form (Tw.unit i p) (Tw.unit i q)) = true from decide_eq_true hall.out)
            go_wp2
            go_ret
            exact ⟨by rw [Hd.out]; rfl, Hb4.out.trans (hb.out.mono Hb4.out.size)⟩
      · rw [decide_eq_false cT] at hI
        rw [decide_eq_false fun h : Tw.IsSym g T => cT h.2.2.1]
        have HC := Lib.hid hC; have HI := Lib.hid hI
        clear hC hI cT hE ha hT hl2 hg
        go_enter Tryd.func29, Tryd.ntmps29
        go_wp2_with fail
        refine HC.out.mono ?_
        rintro e w1 ⟨rfl, hw⟩
        rw [hw]; clear hw w1
        go_wp2_with fail
        refine HI.out.mono ?_
        rintro e w2 ⟨rfl, hb2⟩
        have Hb2 := Lib.hid hb2; clear hb2
        go_wp2
        go_ret
        exact ⟨rfl, Hb2.out⟩
    · have t1 : ((T.length : Int) != 2 * g) = true := by simp [hl2]
      rw [decide_eq_false fun h : Tw.IsSym g T => hl2 h.2.1]
      have HC := Lib.hid hC
      clear hC hE ha hT hl2 hg
      go_enter Tryd.func29, Tryd.ntmps29
      go_wp2_with fail
      refine HC.out.mono ?_
      rintro e w1 ⟨rfl, hw⟩
      rw [hw]; clear hw w1
      go_wp2
      go_ret
      exact ⟨rfl, Below.refl _ _⟩
  · rw [decide_eq_false hg] at hC
    rw [decide_eq_false fun h : Tw.IsSym g T => hg h.1]
    have HC := Lib.hid hC
    clear hC hE ha hT hg
    go_enter Tryd.func29, Tryd.ntmps29
    go_wp2_with fail
    refine HC.out.mono ?_
    rintro e w1 ⟨rfl, hw⟩
    rw [hw]; clear hw w1
    go_wp2
    go_ret
    exact ⟨rfl, Below.refl _ _⟩
end Go.Proofs.YtamgimdjnmcpaaaDoor
