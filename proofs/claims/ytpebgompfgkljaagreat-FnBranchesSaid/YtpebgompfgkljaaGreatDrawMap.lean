/-
  The walks of the model's draws of maps.
-/
import Derived.Test.YtpebgompfgkljaaGreatBase
import Derived.Test.YtpebgompfgkljaaGreatSlice
import Derived.Test.YtpebgompfgkljaaGreatInts
import Derived.Test.YtpebgompfgkljaaGreatGrid
import Derived.Test.YtpebgompfgkljaaGreatOwn
import Derived.Test.YtpebgompfgkljaaGreatAppend
import Derived.Test.YtpebgompfgkljaaGreatWord
import Derived.Test.YtpebgompfgkljaaGreatIsWord
import Derived.Test.YtpebgompfgkljaaGreatClass
import Derived.Test.YtpebgompfgkljaaGreatLab
import Derived.Test.YtpebgompfgkljaaGreatMapTopo
import Derived.Test.YtpebgompfgkljaaGreatMap
import Derived.Test.YtpebgompfgkljaaGreatMapA
import Derived.Test.YtpebgompfgkljaaGreatMapB
import Derived.Test.YtpebgompfgkljaaGreatMapG
import Derived.Test.YtpebgompfgkljaaGreatMapH
import Derived.Test.YtpebgompfgkljaaGreatDraw
import Derived.Deep.QuietTactic
import Derived.BigQuiet
namespace Go.Proofs.YtpebgompfgkljaaGreat
open Go.RowKit

set_option maxRecDepth 10000 in
set_option maxHeartbeats 4000000 in
/-- AddEdge of the model, and that its answer can be written. -/
theorem spec_AddEdge_own (a : Option Addr) (c : Nat) (l : List Int) (va vb : Int) (w : World) (ha : RowAt w a (intCells l)) (hok : Mp.AddOk l va vb) :
    Calls Tryz.prog 137 #[.slice a l.length c, .int .i64 va, .int .i64 vb] w fun e w' => (∃ v, e = .returned (.tuple #[v, .bool true]) ∧ w'.ownsRow w.heap.size 3 1 v (l.length + 2) (intCells (Mp.add l va vb))) ∧ Below w.heap.size w w' := by
  have hM := hok.1
  have h1 := hok.2.1
  have h2 := hok.2.2.1
  have h3 := hok.2.2.2
  have hc := spec_IsMap a c l w ha (by have := hM.2.1; omega)
  rw [decide_eq_true hM] at hc
  have hn := hM.2.1
  have hn2 := hM.1
  have hw0 : IntKind.i64.wrap ((l.length : Int) - 1) = (l.length : Int) - 1 := wrap_small (by omega) (by omega)
  have hw2 : IntKind.i64.wrap ((l.length : Int) + 2) = (l.length : Int) + 2 := wrap_small (by omega) (by omega)
  have hA := fun W => spec_l1In va 0 ((l.length : Int) - 1) W
  have hB := fun W => spec_l1In vb 0 ((l.length : Int) - 1) W
  rw [decide_eq_true (show 0 ≤ va ∧ va ≤ (l.length : Int) - 1 from ⟨h1.1, by have := h1.2; omega⟩)] at hA
  rw [decide_eq_true (show 0 ≤ vb ∧ vb ≤ (l.length : Int) - 1 from ⟨h2.1, by have := h2.2; omega⟩)] at hB
  have h3' : ¬ (24 : Int) < (l.length : Int) + 2 := by unfold Mp.Room at h3; omega
  have hv : Mp.add l va vb = Cls.row (Mp.addF l va.toNat vb.toNat) (l.length + 2) := if_pos hok
  rw [hv]
  obtain ⟨x, rfl⟩ : ∃ x : Nat, va = ((x : Nat) : Int) := ⟨va.toNat, by have := h1.1; omega⟩
  obtain ⟨y, rfl⟩ : ∃ y : Nat, vb = ((y : Nat) : Int) := ⟨vb.toNat, by have := h2.1; omega⟩
  have hx : x < l.length := by have := h1.2; omega
  have hy : y < l.length := by have := h2.2; omega
  simp only [Int.toNat_natCast]
  obtain ⟨i0, hi0, hz0, hz1, hz2⟩ := info_int_parts
  have hw1 : IntKind.i64.wrap ((l.length : Int) + 1) = (l.length : Int) + 1 := wrap_small (by omega) (by omega)
  have ht1 : ((l.length : Int) + 1).toNat = l.length + 1 := by omega
  have hrow0 : l = Cls.row (Mp.at_ l) l.length := (Mp.at_row hM.2.2.2).symm
  have hfin := fun (W : World) (lo g cap : Nat) (h : W.ownsRow lo 3 1 (.slice (some ⟨g, 0, none⟩) (l.length + 2) cap) (l.length + 2) (intCells (Cls.row (Mp.behind (Mp.behind (Mp.plus (Mp.at_ l) l.length 0 0) l.length x) (l.length + 1) (if x = y then l.length else y)) (l.length + 2)))) => (show W.ownsRow lo 3 1 (.slice (some ⟨g, 0, none⟩) (l.length + 2) cap) (l.length + 2) (intCells (Cls.row (Mp.addF l x y) (l.length + 2))) by rw [← row_congr (Mp.addF_plus hx hy 0 0)]; exact h)
  have Hc := Lib.hid hc; have HA := Lib.hid hA; have HB := Lib.hid hB; have Hi0 := Lib.hid hi0; have Hz0 := Lib.hid hz0; have Hz1 := Lib.hid hz1; have Hz2 := Lib.hid hz2
  have Ha := Lib.hid ha; have Hrow0 := Lib.hid hrow0; have Hfin := Lib.hid hfin
  have hm1 : 0 + l.length ≤ maxLen := by unfold maxLen; omega
  have hm2 : (0 + l.length) * 8 ≤ 140737488355328 := by omega
  have hm3 : l.length + 2 ≤ maxLen := by unfold maxLen; omega
  have hm4 : (l.length + 2) * 8 ≤ 140737488355328 := by omega
  clear hc hA hB hi0 hz0 hz1 hz2 hM h1 h2 h3 hok hv ha hrow0 hfin
  by_cases hxy : x = y
  · have hq : ((x : Int) == (y : Int)) = true := by rw [hxy]; simp
    have Hxy := Lib.hid hxy
    clear hxy
    go_enter Tryz.func137, Tryz.ntmps137
    go_wp2_with fail
    refine Hc.out.mono ?_
    rintro e w0 ⟨rfl, hb⟩
    have Hb := Lib.hid hb; clear hb
    go_wp2_with fail
    refine (HA.out _).mono ?_
    rintro e w1 ⟨rfl, hw⟩
    rw [hw]; clear hw
    go_wp2_with fail
    refine (HB.out _).mono ?_
    rintro e w1 ⟨rfl, hw⟩
    rw [hw]; clear hw
    have Hown0 : Hid ((w0.alloc (.cells #[] 3)).ownsRow w0.heap.size 3 1 (.slice (some ⟨w0.heap.size, 0, none⟩) 0 0) 0 (intCells [])) := Lib.hid (own_made rfl)
    have Hr0 := Lib.hid ((Ha.out.below Hb.out).below ((Below.refl _ _).alloc (Nat.le_refl _) (.cells #[] 3)))
    have hbs : w0.heap.size ≤ (w0.alloc (.cells #[] 3)).heap.size := by simp
    go_wp2_with (at_builtin; first | (refine append_row rfl (.tmp 38) (.tmp 39) 30 rfl w0.heap.size 3 i0 _ 8 Tryz.underlying30 Hi0.out Hz0.out Hz1.out Hz2.out (by rfl) _ _ _ rfl Hown0.out _ _ _ _ rfl Hr0.out (by rw [intCells_len]) (intCells_one l) hm1 hm2 hbs ?_; intro v1 w1 hown1 hg1; obtain ⟨hown2, hb1, hs1⟩ := copied Hrow0.out hown1 hg1; have Hb1 := Lib.hid hb1; clear hb1) | (refine append_two rfl (.tmp 40) (.tmp 41) 30 rfl w0.heap.size 3 i0 _ 8 Tryz.underlying30 Hi0.out Hz0.out Hz1.out Hz2.out (by rfl) _ _ _ rfl hown2 (by rfl) (by rfl) _ rfl hm3 hm4 hs1 ?_; intro v2 w2 hown3 hg2; obtain ⟨g, cap, rfl, hown4, hb2⟩ := copied2 (x := 0) (y := 0) rfl rfl hown2 Hb1.out hown3 hg2; obtain ⟨fa, z1, z2, fb, z3, z4, q1, q2, q3, q4, q5, q6, q7, q8, q9, q10, hown5, hb5⟩ := stores4 (n := l.length) (a := x) (b := l.length) hown4 hb2 (by omega) (by omega) (by omega); have Hown5 := Lib.hid hown5; have Hb5 := Lib.hid (Hb.out.trans (hb5.mono Hb.out.size)); clear hown5 hb5 hown4 hown3 hown2 hown1 hg1 hg2 hb2))
    go_wp2
    go_ret2
    have hf := Hfin.out _ _ _ _ (by rw [if_pos Hxy.out]; exact Hown5.out)
    exact ⟨⟨_, rfl, own_mono hf Hb.out.size⟩, Hb5.out⟩
  · have hq : ((x : Int) == (y : Int)) = false := beq_eq_false_iff_ne.2 (by omega)
    have Hxy := Lib.hid hxy
    clear hxy
    go_enter Tryz.func137, Tryz.ntmps137
    go_wp2_with fail
    refine Hc.out.mono ?_
    rintro e w0 ⟨rfl, hb⟩
    have Hb := Lib.hid hb; clear hb
    go_wp2_with fail
    refine (HA.out _).mono ?_
    rintro e w1 ⟨rfl, hw⟩
    rw [hw]; clear hw
    go_wp2_with fail
    refine (HB.out _).mono ?_
    rintro e w1 ⟨rfl, hw⟩
    rw [hw]; clear hw
    have Hown0 : Hid ((w0.alloc (.cells #[] 3)).ownsRow w0.heap.size 3 1 (.slice (some ⟨w0.heap.size, 0, none⟩) 0 0) 0 (intCells [])) := Lib.hid (own_made rfl)
    have Hr0 := Lib.hid ((Ha.out.below Hb.out).below ((Below.refl _ _).alloc (Nat.le_refl _) (.cells #[] 3)))
    have hbs : w0.heap.size ≤ (w0.alloc (.cells #[] 3)).heap.size := by simp
    go_wp2_with (at_builtin; first | (refine append_row rfl (.tmp 38) (.tmp 39) 30 rfl w0.heap.size 3 i0 _ 8 Tryz.underlying30 Hi0.out Hz0.out Hz1.out Hz2.out (by rfl) _ _ _ rfl Hown0.out _ _ _ _ rfl Hr0.out (by rw [intCells_len]) (intCells_one l) hm1 hm2 hbs ?_; intro v1 w1 hown1 hg1; obtain ⟨hown2, hb1, hs1⟩ := copied Hrow0.out hown1 hg1; have Hb1 := Lib.hid hb1; clear hb1) | (refine append_two rfl (.tmp 40) (.tmp 41) 30 rfl w0.heap.size 3 i0 _ 8 Tryz.underlying30 Hi0.out Hz0.out Hz1.out Hz2.out (by rfl) _ _ _ rfl hown2 (by rfl) (by rfl) _ rfl hm3 hm4 hs1 ?_; intro v2 w2 hown3 hg2; obtain ⟨g, cap, rfl, hown4, hb2⟩ := copied2 (x := 0) (y := 0) rfl rfl hown2 Hb1.out hown3 hg2; obtain ⟨fa, z1, z2, fb, z3, z4, q1, q2, q3, q4, q5, q6, q7, q8, q9, q10, hown5, hb5⟩ := stores4 (n := l.length) (a := x) (b := y) hown4 hb2 (by omega) (by omega) (by omega); have Hown5 := Lib.hid hown5; have Hb5 := Lib.hid (Hb.out.trans (hb5.mono Hb.out.size)); clear hown5 hb5 hown4 hown3 hown2 hown1 hg1 hg2 hb2))
    go_wp2
    go_ret2
    have hf := Hfin.out _ _ _ _ (by rw [if_neg Hxy.out]; exact Hown5.out)
    exact ⟨⟨_, rfl, own_mono hf Hb.out.size⟩, Hb5.out⟩

/-- Some integers in memory of the call's own; the cursor goes on. -/
def BentM (w : World) (g most : Nat) (e : Ending) (w' : World) : Prop := ∃ v l, e = .returned v ∧ w'.ownsRow w.heap.size 3 1 v (l : List Int).length (intCells l) ∧ 2 ≤ l.length ∧ l.length ≤ most ∧ CurAt w' g ∧ w.grownBy w' (some g)
theorem ownM_lit (w : World) (l : List Int) (n : Nat) (hn : l.length = n) (h : n ≤ 1000) : (w.alloc (.cells (intCells l).toArray 3)).ownsRow w.heap.size 3 1 (.slice (some ⟨w.heap.size, 0, none⟩) n n) n (intCells l) := by
  refine ⟨by rw [intCells_len, hn, Nat.mul_one], Or.inr ⟨w.heap.size, n, _, rfl, Nat.le_refl _, heap_alloc_new w _, Nat.le_refl _, by unfold maxLen; omega, by simp [intCells_len, hn], ?_⟩⟩
  simp only [Nat.mul_one, List.toList_toArray]
  rw [List.take_of_length_le (by rw [intCells_len, hn]; exact Nat.le_refl _)]
theorem ownM_cur {w w' : World} {base n g : Nat} {e : TypeId} {v : Value} {xs : List Value} (h : w.ownsRow base e 1 v n xs) (hg : w.grownBy w' (some g)) (hgl : g < base) : w'.ownsRow base e 1 v n xs :=
  own_grown h hg fun k hk => by
    obtain ⟨_, h0 | ⟨b, cap, cur, h1, hb, _⟩⟩ := h
    · rw [h0.1] at hk; cases hk
    · rw [h1] at hk
      have : b = k := own_block hk ▸ rfl
      omega
theorem grownM_below {w0 w w' : World} {g : Nat} (h : w0.grownBy w (some g)) (hb : Below w.heap.size w w') : w0.grownBy w' (some g) := h.trans (only_of_below hb _)
theorem grownM_set {w0 w : World} {g b i : Nat} {v : Value} (h : w0.grownBy w (some g)) (hb : w0.heap.size ≤ b) : w0.grownBy (w.setCell ⟨b, i, none⟩ v) (some g) := only_setCell h (Or.inr hb) v
theorem curM_set {w : World} {g b i : Nat} {v : Value} (h : CurAt w g) (hb : g < b) : CurAt (w.setCell ⟨b, i, none⟩ v) g :=
  h.above (row := some b) (only_setCell (World.grownBy.refl _ _) (Or.inl rfl) v) (fun k hk => by cases hk; exact hb)
theorem ownM_set {w : World} {base g cap n i : Nat} {l : List Int} (h : w.ownsRow base 3 1 (.slice (some ⟨g, 0, none⟩) n cap) n (intCells l)) (x : Int) : (w.setCell ⟨g, i, none⟩ (.int .i64 x)).ownsRow base 3 1 (.slice (some ⟨g, 0, none⟩) n cap) n (intCells (l.set i x)) := by
  have := (h.stored i (.int .i64 x)).1
  rw [show (intCells l).set i (.int .i64 x) = intCells (l.set i x) from by simp [intCells, List.map_set]] at this
  exact this
theorem isM_two : Mp.IsM [0, 1] := by decide

set_option maxRecDepth 10000 in
set_option maxHeartbeats 4000000 in
theorem l6DrawM (g : Nat) (m : Int) (w : World) (hc : CurAt w g) (hm1 : 1 ≤ m) (hm6 : m ≤ 6) :
    Calls Tryz.prog 106 #[.pointer (some ⟨g, 0, none⟩), .int .i64 m] w (BentM w g 12) := by
  have hgl := hc.lt
  have hown := ownM_lit w [0, 1] 2 rfl (by omega)
  have hc1 : CurAt (w.alloc (.cells (intCells [0, 1]).toArray 3)) g := hc.alloc _
  have hg1 : w.grownBy (w.alloc (.cells (intCells [0, 1]).toArray 3)) (some g) := only_of_below ((Below.refl _ w).alloc (Nat.le_refl _) _) _
  have hcells : (intCells [0, 1]).toArray = #[.int .i64 0, .int .i64 1] := rfl
  rw [hcells] at hown hc1 hg1
  have Hown := Lib.hid hown; have Hc1 := Lib.hid hc1; have Hg1 := Lib.hid hg1
  clear hown hc1 hg1 hc
  generalize hN : w.heap.size = N at *
  have HN := Lib.hid hN
  go_enter Tryz.func106, Tryz.ntmps106
  go_wp2_with fail
  refine (l1Below g m _ Hc1.out (by omega) (by omega)).mono ?_
  rintro e w1 ⟨⟨n0, rfl, hn0, hn1⟩, hc2, hg2⟩
  obtain ⟨k0, rfl⟩ := Int.eq_ofNat_of_zero_le hn0
  have Hown2 := Lib.hid (ownM_cur Hown.out hg2 hgl); have Hc2 := Lib.hid hc2; have Hg2 := Lib.hid (Hg1.out.trans hg2)
  clear hc2 hg2
  go_wp2
  go_loopw [5, 6, 7, 8] (fun mv nv _ _ wr => ∃ (l : List Int) (n : Nat), nv = .int .i64 n ∧ n ≤ 5 ∧ l.length + 2 * n ≤ 12 ∧ Hid (Mp.IsM l) ∧ Hid (wr.ownsRow N 3 1 mv l.length (intCells l)) ∧ Hid (CurAt wr g) ∧ Hid (w.grownBy wr (some g))) (fun _ nv _ _ _ => (intOf nv).toNat)
  case atStart => exact ⟨[0, 1], k0, rfl, by omega, by simp; omega, Lib.hid isM_two, Hown2, Hc2, Hg2⟩
  case round =>
    clear Hown2 Hc2 Hg2 Hown Hc1 Hg1
    obtain ⟨l, n, rfl, hn, hln, hM, ho, hc, hg⟩ := hrel
    have h2 := hM.out.1
    obtain ⟨ma, mc, hmv⟩ := own_len ho.out
    subst hmv
    by_cases hz : n = 0
    · subst hz
      go_wp2_with fail
      refine (l1Once g 4 _ hc.out (by omega) (by omega)).mono ?_
      rintro e w3 ⟨⟨b, rfl⟩, hc3, hg3⟩
      have Ho3 := Lib.hid (ownM_cur ho.out hg3 hgl); have Hc3 := Lib.hid hc3; have Hg3 := Lib.hid (hg.out.trans hg3)
      clear hc3 hg3
      cases b with
      | false =>
        go_wp2
        go_ret
        unfold BentM
        rw [HN.out]
        exact ⟨.slice ma l.length mc, l, rfl, Ho3.out, h2, by omega, Hc3.out, Hg3.out⟩
      | true =>
        go_wp2
        go_loopw [9, 10, 11, 12] (fun kv _ _ _ wr => ∃ (l' : List Int) (k : Nat), kv = .int .i64 k ∧ k ≤ 3 ∧ l'.length = l.length ∧ Hid (wr.ownsRow N 3 1 (.slice ma l.length mc) l.length (intCells l')) ∧ Hid (CurAt wr g) ∧ Hid (w.grownBy wr (some g))) (fun kv _ _ _ _ => 3 - (intOf kv).toNat)
        case atStart => exact ⟨l, 0, rfl, by omega, rfl, Ho3, Hc3, Hg3⟩
        case round =>
          clear Ho3 Hc3 Hg3 ho hc hg
          obtain ⟨l', k, rfl, hk, hl', ho, hc, hg⟩ := hrel
          by_cases hlt : k < 3
          · have hlp : (0 : Int) < (l.length : Int) := by omega
            go_wp2_with fail
            refine (l1Below g l.length _ hc.out hlp (by omega)).mono ?_
            rintro e w4 ⟨⟨i0, rfl, hi0, hi1⟩, hc4, hg4⟩
            obtain ⟨i, rfl⟩ := Int.eq_ofNat_of_zero_le hi0
            have Ho4 := Lib.hid (ownM_cur ho.out hg4 hgl); have Hc4 := Lib.hid hc4; have Hg4 := Lib.hid (hg.out.trans hg4)
            clear hc4 hg4
            go_wp2_with fail
            refine (l1Below g l.length _ Hc4.out hlp (by omega)).mono ?_
            rintro e w5 ⟨⟨j0, rfl, hj0, hj1⟩, hc5, hg5⟩
            obtain ⟨j, rfl⟩ := Int.eq_ofNat_of_zero_le hj0
            have ho5 := ownM_cur Ho4.out hg5 hgl
            have Hc5 := Lib.hid hc5; have Hg5 := Lib.hid (Hg4.out.trans hg5)
            clear hc5 hg5
            obtain ⟨gm, cap, e5, hcap, hcm⟩ := own_form ho5 (by omega)
            cases e5
            have hgm := (ho5.lt gm rfl).1
            have hi2 : i < l'.length := by omega
            have hj2 : j < l'.length := by omega
            have hci := own_cell ho5 (show i < l.length by omega) hl'
            have hcj := own_cell ho5 (show j < l.length by omega) hl'
            have hfi := ho5.frozenAt i
            have ho6 := ownM_set (i := i) ho5 (l'[j])
            have hcj6 := own_cell ho6 (show j < l.length by omega) (by rw [List.length_set]; exact hl')
            have hfj6 := ho6.frozenAt j
            have ho7 := ownM_set (i := j) ho6 (l'[i])
            have Hc7 := Lib.hid (curM_set (i := j) (v := .int .i64 l'[i]) (curM_set (i := i) (v := .int .i64 l'[j]) Hc5.out (show g < gm by omega)) (show g < gm by omega))
            have Hg7 := Lib.hid (grownM_set (i := j) (v := .int .i64 l'[i]) (grownM_set (i := i) (v := .int .i64 l'[j]) Hg5.out (show w.heap.size ≤ gm by rw [HN.out]; exact hgm)) (show w.heap.size ≤ gm by rw [HN.out]; exact hgm))
            have Ho7 := Lib.hid ho7
            generalize (l'.set i l'[j])[j]'(by rw [List.length_set]; omega) = z6 at hcj6
            generalize hli : l'[i] = xi at *
            generalize hlj : l'[j] = xj at *
            have hi3 : (i : Int) < (l.length : Int) := by omega
            have hj3 : (j : Int) < (l.length : Int) := by omega
            clear ho5 ho6 ho7 hli hlj hi0 hj0 hi1 hj1
            go_wp2
            go_roundw
            case rel => exact ⟨_, k + 1, by go_num, by omega, by rw [List.length_set, List.length_set]; exact hl', Ho7, Hc7, Hg7⟩
            case measure => simp [intOf]; omega
          · obtain rfl : k = 3 := by omega
            go_wp2
            go_ret
            unfold BentM
            rw [HN.out]
            exact ⟨.slice ma l.length mc, l', rfl, by rw [hl']; exact ho.out, by omega, by omega, hc.out, hg.out⟩
    · have hpos : (0 : Int) < (n : Int) := by omega
      have hlp : (0 : Int) < (l.length : Int) := by omega
      go_wp2_with fail
      refine (l1Below g l.length _ hc.out hlp (by omega)).mono ?_
      rintro e w4 ⟨⟨x, rfl, hx0, hx1⟩, hc4, hg4⟩
      have Ho4 := Lib.hid (ownM_cur ho.out hg4 hgl); have Hc4 := Lib.hid hc4; have Hg4 := Lib.hid (hg.out.trans hg4)
      clear hc4 hg4
      go_wp2_with fail
      refine (l1Below g l.length _ Hc4.out hlp (by omega)).mono ?_
      rintro e w5 ⟨⟨y, rfl, hy0, hy1⟩, hc5, hg5⟩
      have ho5 := ownM_cur Ho4.out hg5 hgl
      have Hc5 := Lib.hid hc5; have Hg5 := Lib.hid (Hg4.out.trans hg5)
      clear hc5 hg5
      have hok : Mp.AddOk l x y := ⟨hM.out, ⟨hx0, hx1⟩, ⟨hy0, hy1⟩, by unfold Mp.Room; omega⟩
      have hM2 := Mp.add_isM hok
      have hlen2 : (Mp.add l x y).length = l.length + 2 := by unfold Mp.add; rw [if_pos hok, Cls.row_len]
      have hrow : RowAt w5 ma (intCells l) := by
        obtain ⟨a', c', e', hr⟩ := own_row ho5 (intCells_len l)
        cases e'; exact hr
      have Hadd := Lib.hid (spec_AddEdge_own ma mc l x y w5 hrow hok)
      have hN5 : N ≤ w5.heap.size := by have := Hg5.out.size; rw [HN.out] at this; exact this
      have HM2 := Lib.hid hM2
      clear ho5 hok hM2 hrow
      generalize Mp.add l x y = l2 at *
      go_wp2_with fail
      refine Hadd.out.mono ?_
      rintro e w6 ⟨⟨v, rfl, hov⟩, hb6⟩
      rw [← hlen2] at hov
      have Hov := Lib.hid (own_mono hov hN5); have Hc6 := Lib.hid (Hc5.out.below hb6); have Hg6 := Lib.hid (grownM_below Hg5.out hb6)
      obtain ⟨va, vc, hvv⟩ := own_len hov
      subst hvv
      have Hlen2 := Lib.hid hlen2
      clear hov hb6 hlen2
      obtain ⟨n1, rfl⟩ : ∃ n1, n = n1 + 1 := ⟨n - 1, by omega⟩
      have hw6 : IntKind.i64.wrap (((n1 + 1 : Nat) : Int) - 1) = ((n1 : Nat) : Int) := by rw [show ((n1 + 1 : Nat) : Int) - 1 = ((n1 : Nat) : Int) from by omega]; exact wrap_small (by omega) (by omega)
      go_wp2
      go_roundw
      case rel => exact ⟨l2, n1, by first | rfl | (simp; omega), by omega, by have := Hlen2.out; omega, HM2, Hov, Hc6, Hg6⟩
      case measure => simp [intOf] <;> omega
theorem l6Draw (g : Nat) (w : World) (hc : CurAt w g) :
    Calls Tryz.prog 106 #[.pointer (some ⟨g, 0, none⟩), .int .i64 6] w (BentM w g 12) := l6DrawM g 6 w hc (by omega) (by omega)
end Go.Proofs.YtpebgompfgkljaaGreat
