/-
  The walk of the model's IsSymplectic: two columns are gathered side by side. The laws' test whether two slices hold the same integers, and rows that are carried along. The laws' test whether two lists of rows are the same. A slice of bytes that comes in: its cells are known.
-/
import Derived.Test.YtamgimdjnmcpaaaDoorBase
import Derived.Test.YtamgimdjnmcpaaaDoorSlice
import Derived.Test.YtamgimdjnmcpaaaDoorIntRow
import Derived.Test.YtamgimdjnmcpaaaDoorInts
import Derived.Test.YtamgimdjnmcpaaaDoorOwn
import Derived.Test.YtamgimdjnmcpaaaDoorAppend
import Derived.Test.YtamgimdjnmcpaaaDoorIsWord
import Derived.Test.YtamgimdjnmcpaaaDoorGrid
import Derived.Test.YtamgimdjnmcpaaaDoorGridRows
import Derived.Test.YtamgimdjnmcpaaaDoorRowI
import Derived.Test.YtamgimdjnmcpaaaDoorTw
import Derived.Test.YtamgimdjnmcpaaaDoorTwB
import Derived.Test.YtamgimdjnmcpaaaDoorTwC
import Derived.Test.YtamgimdjnmcpaaaDoorTwD
import Derived.Test.YtamgimdjnmcpaaaDoorTwS
import Derived.Test.YtamgimdjnmcpaaaDoorTwT
import Derived.Deep.QuietTactic
import Derived.BigQuiet
import Derived.StillTailTactics
import Derived.Test.YtamgimdjnmcpaaaDoorDraw
import Derived.OpenShut
namespace Go.Proofs.YtamgimdjnmcpaaaDoor
open Go.RowKit

/-- Two rows of the call's own, in blocks of their own. -/
def TwoI (w : World) (N : Nat) (wr : World) (xv yv : Value) (xs ys : List Int) : Prop :=
  wr.ownsRow N 3 1 xv xs.length (intCells xs) ∧ wr.ownsRow N 3 1 yv ys.length (intCells ys) ∧ (∀ k, xv.ownBlock = some k → yv.ownBlock ≠ some k) ∧ Below N w wr ∧ N ≤ wr.heap.size
theorem TwoI.symm {w wr : World} {N : Nat} {xv yv : Value} {xs ys : List Int} (h : TwoI w N wr xv yv xs ys) : TwoI w N wr yv xv ys xs :=
  ⟨h.2.1, h.1, fun k hk he => h.2.2.1 k he hk, h.2.2.2⟩
theorem TwoI.more {w wr w3 : World} {N : Nat} {xv yv v3 : Value} {xs ys : List Int} {x : Int} {o : Obj} (h : TwoI w N wr xv yv xs ys) (hown : w3.ownsRow N 3 1 v3 (xs.length + 1) (intCells xs ++ [.int .i64 x])) (hg : (wr.alloc o).grownBy w3 xv.ownBlock)
    (hn : v3.ownBlock = xv.ownBlock ∨ v3.ownBlock = some (wr.alloc o).heap.size) : TwoI w N w3 v3 yv (xs ++ [x]) ys := by
  obtain ⟨h1, h2, h3, h4, h5⟩ := h
  have hsz : (wr.alloc o).heap.size = wr.heap.size + 1 := by simp
  refine ⟨?_, ?_, ?_, ?_, ?_⟩
  · rw [← intCells_snoc, List.length_append]; exact hown
  · refine (h2.alloc o).kept hg ?_
    cases hb : yv.ownBlock with
    | none => exact Or.inl rfl
    | some k => exact Or.inr (fun e => h3 k e.symm hb)
  · intro k hk
    rcases hn with e | e
    · exact h3 k (e ▸ hk)
    · rw [hk] at e
      have e := Option.some.inj e
      intro hy
      have := (h2.lt k hy).2
      omega
  · exact (h4.alloc h5 _).grown hg (by omega) (fun k hk => (h1.lt k hk).1)
  · have := hg.size; omega
theorem TwoI.made (wo : World) : TwoI wo wo.heap.size ((wo.alloc (.cells #[] 3)).alloc (.cells #[] 3)) (.slice (some ⟨wo.heap.size, 0, none⟩) 0 0) (.slice (some ⟨wo.heap.size + 1, 0, none⟩) 0 0) [] [] := by
  have hsz : (wo.alloc (.cells #[] 3)).heap.size = wo.heap.size + 1 := by simp
  have h1 := (own_made (w := wo) rfl).alloc (.cells #[] 3)
  have h2 := own_made (w := wo.alloc (.cells #[] 3)) rfl
  rw [hsz] at h2
  refine ⟨h1, own_mono h2 (by omega), fun k hk he => ?_, ((Below.refl _ _).alloc (Nat.le_refl _) _).alloc (by simp) _, by simp; omega⟩
  have e1 := own_block hk; have e2 := own_block he; omega
theorem TwoI.below {w wr w' : World} {N : Nat} {xv yv : Value} {xs ys : List Int} (h : TwoI w N wr xv yv xs ys) (hb : Below wr.heap.size wr w') : TwoI w N w' xv yv xs ys :=
  ⟨own_keep h.1 hb (fun k hk => (h.1.lt k hk).2), own_keep h.2.1 hb (fun k hk => (h.2.1.lt k hk).2), h.2.2.1, h.2.2.2.1.trans (hb.mono h.2.2.2.2), Nat.le_trans h.2.2.2.2 hb.size⟩
theorem Tw.col_all {T : List (List Int)} {n j : Nat} (h : T.length = n) : (Tw.col T j).take n = Tw.col T j := List.take_of_length_le (by rw [Tw.col_len, h]; exact Nat.le_refl _)
set_option maxRecDepth 10000 in
set_option maxHeartbeats 4000000 in
theorem spec_IsSymplectic (g : Int) (a : Option Addr) (c : Nat) (T : List (List Int)) (w : World) (ha : GridAt w a T) (hn : T.length ≤ 1048576) (hT : ∀ r ∈ T, r.length ≤ 1048576) :
    Calls Tryd.prog 30 #[.int .i64 g, .slice a T.length c] w fun e w' => e = .returned (.bool (decide (Tw.IsSym g T))) ∧ Below w.heap.size w w' := by
  have hC := spec_l1In g 1 3 w
  by_cases hg : 1 ≤ g ∧ g ≤ 3
  · rw [decide_eq_true hg] at hC
    have e0 : IntKind.i64.wrap (2 * g) = 2 * g := wrap_small (by omega) (by omega)
    by_cases hl2 : (T.length : Int) = 2 * g
    · have t1 : ((T.length : Int) != 2 * g) = false := by simp [hl2]
      have hI := spec_l11Table a c T w ha hn hT
      by_cases cT : Tw.IsT T
      · rw [decide_eq_true cT] at hI
        obtain ⟨i0, hi0, hz0, hz1, hz2⟩ := info_int_parts
        have Hi0 := Lib.hid hi0; have Hz0 := Lib.hid hz0; have Hz1 := Lib.hid hz1; have Hz2 := Lib.hid hz2
        obtain ⟨n, hnn⟩ : ∃ n, T.length = n := ⟨_, rfl⟩
        obtain ⟨m, hm⟩ : ∃ m : Nat, n = 2 * m := ⟨g.toNat, by omega⟩
        have hd : decide (Tw.IsSym g T) = decide (∀ p, p < n → ∀ q, q < n → Tw.form (Tw.col T p) (Tw.col T q) = Tw.form (Tw.unit n p) (Tw.unit n q)) :=
          decide_eq_decide.2 ⟨fun h => by have := h.2.2.2; rw [hnn] at this; exact this, fun h => ⟨hg, hl2, cT, by rw [hnn]; exact h⟩⟩
        have hF := fun (W : World) (p q : Nat) (ap aq : Option Addr) (cp cq : Nat) (h1 : RowAt W ap (intCells (Tw.col T p))) (h2 : RowAt W aq (intCells (Tw.col T q))) => spec_l11Form ap cp (Tw.col T p) aq cq (Tw.col T q) m W h1 h2 (Tw.col_fits cT p) (Tw.col_fits cT q) (by rw [Tw.col_len, hnn, hm]) (by rw [Tw.col_len, hnn, hm]) (by omega)
        have hG := fun (W : World) (p q : Nat) (ap aq : Option Addr) (cp cq : Nat) (h1 : RowAt W ap (intCells (Tw.unit n p))) (h2 : RowAt W aq (intCells (Tw.unit n q))) => spec_l11Form ap cp (Tw.unit n p) aq cq (Tw.unit n q) m W h1 h2 (Tw.unit_fits n p) (Tw.unit_fits n q) (by rw [Tw.unit_len, hm]) (by rw [Tw.unit_len, hm]) (by omega)
        have hU := fun W p (hp : p < n) => spec_l11Unit n p W (by omega) hp
        simp only [Tw.col_len, hnn] at hF
        simp only [Tw.unit_len] at hG
        have e1 : IntKind.i64.wrap (2 * g) = (n : Int) := by rw [e0, ← hl2, hnn]
        have hn6 : n ≤ 6 := by have := cT.1.2; omega
        have t2 : ((n : Int) != (n : Int)) = false := by simp
        rw [hd]
        have HC := Lib.hid hC; have HI := Lib.hid hI; have HU := Lib.hid hU; have HF := Lib.hid hF; have HG := Lib.hid hG
        have Ha := Lib.hid ha; have HrT := Lib.hid (fun r hr => (cT.2 r hr).1)
        have Hn := Lib.hid hnn
        rw [hnn] at HI ⊢
        clear hC hI hU hF hG hd cT ha hT hl2 hg hn hnn hm e0 t1 hi0 hz0 hz1 hz2
        go_enter Tryd.func30, Tryd.ntmps30
        go_wp2_with fail
        refine HC.out.mono ?_
        rintro e w1 ⟨rfl, hw⟩
        rw [hw]; clear hw w1
        go_wp2_with fail
        refine HI.out.mono ?_
        rintro e w2 ⟨rfl, hw⟩
        rw [hw]; clear hw w2
        go_wp2
        go_loopw [4, 5, 6, 7, 8, 9] (fun rv iv _ _ _ _ wr => rv = .bool false ∧ ∃ i : Nat, i ≤ n ∧ iv = .int .i64 i ∧ Hid (∀ p, p < i → ∀ q, q < n → Tw.form (Tw.col T p) (Tw.col T q) = Tw.form (Tw.unit n p) (Tw.unit n q)) ∧ Hid (Below w.heap.size w wr)) (fun _ iv _ _ _ _ _ => n - (intOf iv).toNat)
        case atStart => exact ⟨rfl, 0, by omega, rfl, Lib.hid (fun p hp => by omega), Lib.hid (Below.refl _ _)⟩
        case round =>
          obtain ⟨rfl, i, hi, rfl, hall, hb⟩ := hrel
          by_cases hlt : i < n
          · obtain ⟨wo, hwo⟩ : ∃ wo : World, wo = wr := ⟨_, rfl⟩
            subst hwo
            go_wp2
            go_loopw [4, 6, 7, 8, 9] (fun rv jv _ _ _ wr => rv = .bool false ∧ ∃ j : Nat, j ≤ n ∧ jv = .int .i64 j ∧ Hid (∀ q, q < j → Tw.form (Tw.col T i) (Tw.col T q) = Tw.form (Tw.unit n i) (Tw.unit n q)) ∧ Hid (Below w.heap.size w wr)) (fun _ jv _ _ _ _ => n - (intOf jv).toNat)
            case atStart => exact ⟨rfl, 0, by omega, rfl, Lib.hid (fun p hp => by omega), hb⟩
            case round =>
              obtain ⟨rfl, j, hj, rfl, hallj, hb⟩ := hrel
              by_cases hjt : j < n
              · obtain ⟨wq, hwq⟩ : ∃ wq : World, wq = wr := ⟨_, rfl⟩
                subst hwq
                have R0 := Lib.hid (TwoI.made wq)
                have i0' : (0 : Int) ≤ (i : Int) := by omega
                have i1' : (i : Int) < (n : Int) := by omega
                have j0 : (0 : Int) ≤ (j : Int) := by omega
                have j1 : (j : Int) < (n : Int) := by omega
                go_wp2
                go_loopw [7, 8, 9] (fun xv yv kv wr => ∃ k : Nat, k ≤ n ∧ kv = .int .i64 k ∧ Hid (TwoI wq wq.heap.size wr xv yv ((Tw.col T i).take k) ((Tw.col T j).take k))) (fun _ _ kv _ => n - (intOf kv).toNat)
                case atStart => exact ⟨0, by omega, rfl, R0⟩
                case round =>
                  obtain ⟨k, hk, rfl, hR⟩ := hrel
                  have hbk := hR.out.2.2.2.1
                  have l1 : ((Tw.col T i).take k).length = k := by rw [List.length_take, Tw.col_len, Hn.out]; omega
                  have l2 : ((Tw.col T j).take k).length = k := by rw [List.length_take, Tw.col_len, Hn.out]; omega
                  by_cases hkt : k < n
                  · obtain ⟨r, hr⟩ := get_some (show k < T.length by rw [Hn.out]; exact hkt)
                    have hbw := hb.out.trans (hbk.mono hb.out.size)
                    obtain ⟨b, o, ai, ci, eb, hbb, hcell0, hrow⟩ := Ha.out.get hr
                    subst eb
                    have hrl : r.length = n := by rw [HrT.out r (get_mem hr), Hn.out]
                    rw [hrl] at hcell0
                    have Hc := Lib.hid (fun W (h : Below w.heap.size w W) => show W.cell? ⟨b, o + k, none⟩ = some (.slice ai n ci) from by rw [h.cell hbb]; exact hcell0)
                    obtain ⟨b1, o1, e1', hb1, hx0⟩ := intCells_get? hrow (Tw.get?_nth (show i < r.length by rw [hrl]; exact hlt))
                    obtain ⟨b2, o2, e2', _, hy0⟩ := intCells_get? hrow (Tw.get?_nth (show j < r.length by rw [hrl]; exact hjt))
                    subst e1'; cases e2'
                    have Hx := Lib.hid (fun W (h : Below w.heap.size w W) => show W.cell? ⟨b1, o1 + i, none⟩ = some (.int .i64 (Tw.nth r i)) from by rw [h.cell hb1]; exact hx0)
                    have Hy := Lib.hid (fun W (h : Below w.heap.size w W) => show W.cell? ⟨b1, o1 + j, none⟩ = some (.int .i64 (Tw.nth r j)) from by rw [h.cell hb1]; exact hy0)
                    have Htx := Lib.hid (Tw.col_take (j := i) hr); have Hty := Lib.hid (Tw.col_take (j := j) hr)
                    generalize Tw.nth r i = X at *
                    generalize Tw.nth r j = Y at *
                    have kc := Hc.out wr hbw; have kx := Hx.out wr hbw
                    have hox := hR.out.1; have hoy := hR.out.2.1
                    rw [l1] at hox; rw [l2] at hoy
                    have hN : wq.heap.size ≤ wr.heap.size := hR.out.2.2.2.2
                    obtain ⟨xa, xc, hxv⟩ := own_len hox
                    subst hxv
                    have hRR := hR.out
                    have Hm1 := Lib.hid (fun (w3 : World) (v3 : Value) (k1 : w3.ownsRow wq.heap.size 3 1 v3 (((Tw.col T i).take k).length + 1) (intCells ((Tw.col T i).take k) ++ [.int .i64 X])) (k2 : (wr.alloc (.cells #[.int .i64 X] 3)).grownBy w3 (Value.slice xa k xc).ownBlock) (k3 : v3.ownBlock = (Value.slice xa k xc).ownBlock ∨ v3.ownBlock = some (wr.alloc (.cells #[.int .i64 X] 3)).heap.size) => hRR.more k1 k2 k3)
                    rw [l1] at Hm1
                    have Hox := Lib.hid hox
                    obtain ⟨ya, yc, hyv⟩ := own_len hoy
                    subst hyv
                    have Hb := Lib.hid hb.out
                    have hm1 : k + 1 ≤ maxLen := by unfold maxLen; omega
                    have hm2 : (k + 1) * 8 ≤ 140737488355328 := by omega
                    have k0 : (0 : Int) ≤ (k : Int) := by omega
                    have k1 : (k : Int) < (n : Int) := by omega
                    have L2 := Lib.hid l2; have L1 := Lib.hid l1
                    clear hox hoy hRR hR hbk l1 l2 hr hrow hrl hcell0 hbb hb1 hx0 hy0 hbw
                    go_wp2_with (at_builtin; first
                      | (refine append_one_new rfl (.tmp 45) (.tmp 53) 24 rfl wq.heap.size 3 i0 _ 8 Tryd.underlying24 Hi0.out Hz0.out Hz1.out Hz2.out (by rfl) _ _ _ rfl Hox.out (by rfl) _ rfl hm1 hm2 hN ?_; intro v1 w5 hown5 hg5 hn5; have hT5 := Hm1.out w5 v1 hown5 hg5 hn5; obtain ⟨xa5, xc5, hxv5⟩ := own_len hown5; subst hxv5; have HT5 := Lib.hid hT5; have hbw5 := Hb.out.trans (hT5.2.2.2.1.mono Hb.out.size); have kc5 := Hc.out w5 hbw5; have ky5 := Hy.out w5 hbw5; have hN5 := hT5.2.2.2.2; have hoy5 := hT5.2.1; rw [L2.out] at hoy5; have Hoy5 := Lib.hid hoy5; clear hown5 hg5 hn5 hT5 hbw5 hoy5 kc kx)
                      | (refine append_one_new rfl (.tmp 55) (.tmp 63) 24 rfl wq.heap.size 3 i0 _ 8 Tryd.underlying24 Hi0.out Hz0.out Hz1.out Hz2.out (by rfl) _ _ _ rfl Hoy5.out (by rfl) _ rfl hm1 hm2 hN5 ?_; intro v2 w6 hown6 hg6 hn6'; have hT6 := HT5.out.symm.more (by rw [L2.out]; exact hown6) hg6 hn6'; have HT6 := Lib.hid hT6.symm; clear hown6 hg6 hn6' hT6))
                    go_roundw
                    case rel => exact ⟨k + 1, by omega, by go_num, Lib.hid (by rw [Htx.out, Hty.out]; exact HT6.out)⟩
                    case measure => simp [intOf]; omega
                  · obtain rfl : k = n := by omega
                    have hR2 := hR.out
                    rw [Tw.col_all Hn.out, Tw.col_all Hn.out] at hR2
                    have hbw := hb.out.trans (hbk.mono hb.out.size)
                    have hox := hR2.1; have hoy := hR2.2.1
                    rw [Tw.col_len, Hn.out] at hox hoy
                    obtain ⟨xa, xc, hxv, _, hfx⟩ := own_fresh hox (by rw [intCells_len, Tw.col_len, Hn.out])
                    obtain ⟨ya, yc, hyv, _, hfy⟩ := own_fresh hoy (by rw [intCells_len, Tw.col_len, Hn.out])
                    subst hxv; subst hyv
                    have Hq := Lib.hid (HF.out wr i j xa ya xc yc hfx.row hfy.row)
                    have Hbw := Lib.hid hbw
                    clear hR2 hR hox hoy hfx hfy hbw hbk l1 l2
                    obtain ⟨P, hP⟩ : ∃ P, Tw.form (Tw.col T i) (Tw.col T j) = P := ⟨_, rfl⟩
                    rw [hP] at Hq
                    go_wp2_with fail
                    refine Hq.out.mono ?_
                    rintro e w5 ⟨rfl, hb5⟩
                    have Hb5 := Lib.hid (Hbw.out.trans (hb5.mono Hbw.out.size)); clear hb5
                    have hu1 := HU.out w5 i hlt
                    go_wp2_with fail
                    refine hu1.mono ?_
                    rintro e w6 ⟨ua, uc, rfl, _, _, hf6, hb6⟩
                    rw [Tw.unit_len]
                    have Hf6 := Lib.hid hf6.row; have Hb6 := Lib.hid (Hb5.out.trans (hb6.mono Hb5.out.size)); clear hf6 hb6 hu1
                    have hu2 := HU.out w6 j hjt
                    go_wp2_with fail
                    refine hu2.mono ?_
                    rintro e w7 ⟨va, vc, rfl, _, _, hf7, hb7⟩
                    rw [Tw.unit_len]
                    have Hq2 := Lib.hid (HG.out w7 i j ua va uc vc (Hf6.out.below hb7) hf7.row)
                    have Hb7 := Lib.hid (Hb6.out.trans (hb7.mono Hb6.out.size)); clear hf7 hb7 hu2
                    obtain ⟨Q, hQ⟩ : ∃ Q, Tw.form (Tw.unit k i) (Tw.unit k j) = Q := ⟨_, rfl⟩
                    rw [hQ] at Hq2
                    have HP := Lib.hid hP; have HQ := Lib.hid hQ
                    clear hP hQ
                    go_wp2_with fail
                    refine Hq2.out.mono ?_
                    rintro e w8 ⟨rfl, hb8⟩
                    have Hb8 := Lib.hid (Hb7.out.trans (hb8.mono Hb7.out.size)); clear hb8
                    by_cases hPQ : P = Q
                    · have t3 : (P != Q) = false := by simp [hPQ]
                      have HPQ := Lib.hid hPQ
                      clear hPQ
                      go_wp2
                      go_roundw
                      case rel => exact ⟨rfl, j + 1, by omega, by go_num, Lib.hid (fun q hq => by
                        rcases Nat.lt_or_ge q j with h | h
                        · exact hallj.out q h
                        · obtain rfl : q = j := by omega
                          rw [HP.out, HQ.out, HPQ.out]), Hb8⟩
                      case measure => simp [intOf]; omega
                    · have t3 : (P != Q) = true := by simp [hPQ]
                      have Hno := Lib.hid (show decide (∀ p, p < k → ∀ q, q < k → Tw.form (Tw.col T p) (Tw.col T q) = Tw.form (Tw.unit k p) (Tw.unit k q)) = false from decide_eq_false fun h => by
                        have h1 := h i hlt j hjt
                        rw [HP.out, HQ.out] at h1
                        exact hPQ h1)
                      clear hPQ
                      go_wp2
                      go_ret
                      exact ⟨by rw [Hno.out]; rfl, Hb8.out⟩
              · obtain rfl : j = n := by omega
                go_wp2
                go_roundw
                case rel => exact ⟨rfl, i + 1, by omega, by go_num, Lib.hid (fun p hp q hq => by
                  rcases Nat.lt_or_ge p i with h | h
                  · exact hall.out p h q hq
                  · obtain rfl : p = i := by omega
                    exact hallj.out q hq), hb⟩
                case measure => simp [intOf]; omega
          · obtain rfl : i = n := by omega
            have Hd := Lib.hid (show decide (∀ p, p < i → ∀ q, q < i → Tw.form (Tw.col T p) (Tw.col T q) = Tw.form (Tw.unit i p) (Tw.unit i q)) = true from decide_eq_true hall.out)
            go_wp2
            go_ret
            exact ⟨by rw [Hd.out]; rfl, hb.out⟩
      · rw [decide_eq_false cT] at hI
        rw [decide_eq_false fun h : Tw.IsSym g T => cT h.2.2.1]
        have HC := Lib.hid hC; have HI := Lib.hid hI
        clear hC hI cT ha hT hl2 hg
        go_enter Tryd.func30, Tryd.ntmps30
        go_wp2_with fail
        refine HC.out.mono ?_
        rintro e w1 ⟨rfl, hw⟩
        rw [hw]; clear hw w1
        go_wp2_with fail
        refine HI.out.mono ?_
        rintro e w2 ⟨rfl, hw⟩
        rw [hw]; clear hw w2
        go_wp2
        go_ret
        exact ⟨rfl, Below.refl _ _⟩
    · have t1 : ((T.length : Int) != 2 * g) = true := by simp [hl2]
      rw [decide_eq_false fun h : Tw.IsSym g T => hl2 h.2.1]
      have HC := Lib.hid hC
      clear hC ha hT hl2 hg
      go_enter Tryd.func30, Tryd.ntmps30
      go_wp2_with fail
      refine HC.out.mono ?_
      rintro e w1 ⟨rfl, hw⟩
      rw [hw]; clear hw w1
      go_wp2
      go_ret
      exact ⟨rfl, Below.refl _ _⟩
  · rw [decide_eq_false hg] at hC
    rw [decide_eq_false fun h : Tw.IsSym g T => hg h.1]
    have HC := Lib.hid hC
    clear hC ha hT hg
    go_enter Tryd.func30, Tryd.ntmps30
    go_wp2_with fail
    refine HC.out.mono ?_
    rintro e w1 ⟨rfl, hw⟩
    rw [hw]; clear hw w1
    go_wp2
    go_ret
    exact ⟨rfl, Below.refl _ _⟩
end Go.Proofs.YtamgimdjnmcpaaaDoor
namespace Go.Proofs.YtamgimdjnmcpaaaDoor
open Go.RowKit

/-- Rows that lie in a world. -/
def Rows (w : World) (rs : List (Option Addr × List Int)) : Prop := ∀ r ∈ rs, RowAt w r.1 (intCells r.2)
theorem Rows.nil (w : World) : Rows w [] := fun _ h => by cases h
theorem Rows.below {w w' : World} {rs : List (Option Addr × List Int)} (h : Rows w rs) (hb : Below w.heap.size w w') : Rows w' rs := fun r hr => (h r hr).below hb
theorem Rows.cons {w : World} {rs : List (Option Addr × List Int)} (h : Rows w rs) {a : Option Addr} {l : List Int} (hr : RowAt w a (intCells l)) : Rows w ((a, l) :: rs) := fun r hm => by
  rcases List.mem_cons.1 hm with rfl | hm
  · exact hr
  · exact h r hm
theorem Rows.get {w : World} {rs : List (Option Addr × List Int)} (h : Rows w rs) (a : Option Addr) (l : List Int) (hm : (a, l) ∈ rs) : RowAt w a (intCells l) := h (a, l) hm

set_option maxRecDepth 10000 in
set_option maxHeartbeats 400000 in
theorem sameInts_eq (a a' : Option Addr) (c c' : Nat) (l : List Int) (w : World) (ha : RowAt w a (intCells l)) (ha' : RowAt w a' (intCells l)) (hl : l.length ≤ 9223372036854775807) :
    Calls Tryd.prog 27 #[.slice a l.length c, .slice a' l.length c'] w fun e w' => e = .returned (.bool true) ∧ Below w.heap.size w w' := by
  go_enter Tryd.func27, Tryd.ntmps27
  go_wp2
  go_loopw [4, 5] (fun rv iv wr => rv = .bool false ∧ ∃ i : Nat, i ≤ l.length ∧ iv = .int .i64 i ∧ Below w.heap.size w wr) (fun _ iv _ => l.length - (intOf iv).toNat)
  case atStart => exact ⟨rfl, 0, by omega, rfl, Below.refl _ _⟩
  case round =>
    obtain ⟨rfl, i, hi, rfl, hb⟩ := hrel
    by_cases hlt : i < l.length
    · obtain ⟨b, o, rfl, hbw, hcell⟩ := intCells_at (ha.below hb) hlt
      obtain ⟨b', o', rfl, hbw', hcell'⟩ := intCells_at (ha'.below hb) hlt
      generalize l[i] = x at hcell hcell'
      have h0 : (0 : Int) ≤ (i : Int) := by omega
      have h1 : (i : Int) < (l.length : Int) := by omega
      go_wp2
      go_quiet (fail)
      all_goals go_wp2
      all_goals
        go_roundw
        case rel => exact ⟨rfl, i + 1, by omega, by go_num, below_drewN hb _⟩
        case measure => simp [intOf]; omega
    · obtain rfl : i = l.length := by omega
      go_wp2
      go_ret
      exact ⟨rfl, hb⟩
end Go.Proofs.YtamgimdjnmcpaaaDoor
namespace Go.Proofs.YtamgimdjnmcpaaaDoor
open Go.RowKit

set_option maxRecDepth 10000 in
set_option maxHeartbeats 400000 in
theorem sameInts_q (a a' : Option Addr) (c c' : Nat) (l : List Int) (w : World) (ha : RowAt w a (intCells l)) (ha' : RowAt w a' (intCells l)) (hl : l.length ≤ 9223372036854775807) :
    Calls Tryd.prog 27 #[.slice a l.length c, .slice a' l.length c'] w fun e w' => e = .returned (.bool true) ∧ ∃ m, w' = w.drewN m := by
  go_enter Tryd.func27, Tryd.ntmps27
  go_wp2
  go_loopw [4, 5] (fun rv iv wr => rv = .bool false ∧ ∃ i : Nat, i ≤ l.length ∧ iv = .int .i64 i ∧ Hid (∃ m, wr = w.drewN m)) (fun _ iv _ => l.length - (intOf iv).toNat)
  case atStart => exact ⟨rfl, 0, by omega, rfl, Lib.hid ⟨0, rfl⟩⟩
  case round =>
    obtain ⟨rfl, i, hi, rfl, hm⟩ := hrel
    have hb : Hid (Below w.heap.size w wr) := Lib.hid (by obtain ⟨m, rfl⟩ := hm.out; exact below_drewN (Below.refl _ w) m)
    by_cases hlt : i < l.length
    · obtain ⟨b, o, rfl, hbw, hcell⟩ := intCells_at (ha.below hb.out) hlt
      obtain ⟨b', o', rfl, hbw', hcell'⟩ := intCells_at (ha'.below hb.out) hlt
      generalize l[i] = x at hcell hcell'
      have h0 : (0 : Int) ≤ (i : Int) := by omega
      have h1 : (i : Int) < (l.length : Int) := by omega
      go_wp2
      go_quiet (fail)
      all_goals go_wp2
      all_goals
        go_roundw
        case rel => exact ⟨rfl, i + 1, by omega, by go_num, Lib.hid (by obtain ⟨m, rfl⟩ := hm.out; exact ⟨_, World.drewN_drewN ..⟩)⟩
        case measure => simp [intOf]; omega
    · obtain rfl : i = l.length := by omega
      go_wp2
      go_ret
      exact ⟨rfl, hm.out⟩

set_option maxRecDepth 10000 in
set_option maxHeartbeats 400000 in
theorem sameLists_eq (a a' : Option Addr) (c c' : Nat) (L : List (List Int)) (w : World) (ha : GridAt w a L) (ha' : GridAt w a' L) (hl : tot L ≤ 1048576) :
    Calls Tryd.prog 28 #[.slice a L.length c, .slice a' L.length c'] w fun e w' => e = .returned (.bool true) ∧ Below w.heap.size w w' := by
  have Ha := Lib.hid ha
  have Ha' := Lib.hid ha'
  have HL := Lib.hid hl
  have hln : L.length ≤ 1048576 := by unfold tot at hl; omega
  clear ha ha' hl
  go_enter Tryd.func28, Tryd.ntmps28
  go_wp2
  go_loopw [4, 5] (fun rv iv wr => rv = .bool false ∧ ∃ i : Nat, i ≤ L.length ∧ iv = .int .i64 i ∧ Hid (Below w.heap.size w wr)) (fun _ iv _ => L.length - (intOf iv).toNat)
  case atStart => exact ⟨rfl, 0, by omega, rfl, Lib.hid (Below.refl _ _)⟩
  case round =>
    obtain ⟨rfl, i, hi, rfl, hb⟩ := hrel
    by_cases hlt : i < L.length
    · obtain ⟨b, o, ai, ci, rfl, hbw, hcell, hrow⟩ := (Ha.out.below hb.out).at hlt
      obtain ⟨b', o', ai', ci', rfl, hbw', hcell', hrow'⟩ := (Ha'.out.below hb.out).at hlt
      have hll : L[i].length ≤ 1048576 := by have := len_le_sumLen hlt; have := HL.out; unfold tot at this; omega
      generalize L[i] = r at *
      have Hrow := Lib.hid hrow
      have Hrow' := Lib.hid hrow'
      have h0 : (0 : Int) ≤ (i : Int) := by omega
      have h1 : (i : Int) < (L.length : Int) := by omega
      clear hrow hrow'
      go_wp2
      go_quiet (exact Calls.quiet_of (sameInts_q ai ai' ci ci' r _ (Hrow.out.below (below_drewN (Below.refl _ _) _)) (Hrow'.out.below (below_drewN (Below.refl _ _) _)) (by omega)))
      all_goals go_wp2
      all_goals
        go_roundw
        case rel => exact ⟨rfl, i + 1, by omega, by go_num, Lib.hid (below_drewN hb.out _)⟩
        case measure => simp [intOf]; omega
    · obtain rfl : i = L.length := by omega
      go_wp2
      go_ret
      exact ⟨rfl, hb.out⟩

end Go.Proofs.YtamgimdjnmcpaaaDoor
namespace Go.Proofs.YtamgimdjnmcpaaaDoor
open Go.ChangeShapes Go.WideShapes Go.ChangeAt Go.RowKit Go.WideMaps Go.WideElems
theorem Read.cellsU8 : Tryd.prog.cellsOf 5 = 1 := by kernel_rfl
theorem Read.lt_of_cell8 {w : World} {b o : Nat} {v : Value} (h : w.cell? ⟨b, o, none⟩ = some v) : b < w.heap.size := by
  rcases Nat.lt_or_ge b w.heap.size with hl | hl
  · exact hl
  · simp [World.cell?, Array.getElem?_eq_none hl] at h
set_option maxRecDepth 100000 in
theorem Read.bytes_of {H : Type} {enc : TypeId × Value → H} {W : World} {base : Nat} {v : Value} {d : DataW H} {p : List MemPlace} (hval : Value.okWide Tryd.prog W .any base 22 v)
    (h : DataW.Trod enc Tryd.prog W 0 (fun _ => true) true 22 v d p) :
    ∃ a c l, v = .slice a (l : List Int).length c ∧ RowAt W a (byteCells l) ∧ l.length ≤ maxLen ∧ ∀ x ∈ l, 0 ≤ x ∧ x ≤ 255 := by
  obtain ⟨a0, len, cap, rfl⟩ := okWide_slice Tryd.underlying22 hval
  obtain ⟨fuel, hf⟩ := h
  rcases open_ints Tryd.underlying22 Tryd.underlying5 Read.cellsU8 hf with ⟨hcs, hx⟩ | ⟨a, len', cap', ss, hcs, _, hl, hm, hz, hx, hcell, hws⟩
  · simp [Value.cells] at hcs
    obtain ⟨rfl, rfl, rfl⟩ := hcs
    exact ⟨none, 0, [], rfl, Or.inl rfl, Nat.zero_le _, fun _ h => by cases h⟩
  · simp [Value.cells] at hcs
    obtain ⟨rfl, rfl, rfl⟩ := hcs
    simp only [if_true] at hz
    have hlen : (ss.take len).length = len := by rw [List.length_take]; omega
    refine ⟨some a, cap, ss.take len, by rw [hlen], ?_, by rw [hlen]; omega, fun s hs => bounds_u8 (hws s (List.mem_of_mem_take hs))⟩
    by_cases h0 : len = 0
    · left; subst h0; simp [byteCells]
    · right
      have hc0 := hcell 0 (by omega)
      obtain ⟨b, o, spot⟩ := a
      have hspot : spot = none := by simpa [Addr.add] using World.cell?_spot hc0
      subst hspot
      have hadd : ∀ i, (⟨b, o, none⟩ : Addr).add i = ⟨b, o + i, none⟩ := fun i => by unfold Addr.add; split <;> simp_all
      refine ⟨b, o, rfl, ?_, fun i v hv => ?_⟩
      · rw [hadd] at hc0; exact Read.lt_of_cell8 hc0
      · simp only [byteCells, List.getElem?_map, Option.map_eq_some_iff] at hv
        obtain ⟨s, hs, rfl⟩ := hv
        rw [List.getElem?_take] at hs
        split at hs
        · have := hcell i (by omega)
          rw [hadd] at this
          rw [this, List.getD_eq_getElem?_getD, hs]; rfl
        · cases hs
/-- big: more than so many bytes. -/
theorem big (a : Option Addr) (n c : Nat) (w : World) (hn : n ≤ 9223372036854775807) :
    Calls Tryd.prog 12 #[.slice a n c] w fun e w' => e = .returned (.bool (decide (1048576 < n))) ∧ w = w' := by
  go_enter Tryd.func12, Tryd.ntmps12
  go_wp2
  go_ret
  exact ⟨congrArg (fun b => Ending.returned (Value.bool b)) (decide_eq_decide.2 (by omega)), rfl⟩
end Go.Proofs.YtamgimdjnmcpaaaDoor
