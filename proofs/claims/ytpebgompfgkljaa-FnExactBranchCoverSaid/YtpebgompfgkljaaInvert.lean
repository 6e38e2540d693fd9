/-
  The walks of the program's InverseWord (a range over a function) and of the model's.
-/
import Derived.RangeFuncBox
import Derived.RangeFuncLeaves
import Derived.Shelf.Abstract
import Derived.OwnWalkIn
import Derived.TacticsInMore
import Derived.LoopNIn
import Derived.LoopIn
import Derived.Maps.AppendAt
import Derived.Test.YtpebgompfgkljaaBase
import Derived.Test.YtpebgompfgkljaaSlice
import Derived.Test.YtpebgompfgkljaaInts
import Derived.Test.YtpebgompfgkljaaWord
import Derived.Test.YtpebgompfgkljaaIsWord
import Derived.Test.YtpebgompfgkljaaReduce
import Derived.Test.YtpebgompfgkljaaIter
namespace Go.Proofs.Ytpebgompfgkljaa
open Go.RowKit Go.Shelf

attribute [local go_sem] Oper.semAt_some

set_option maxRecDepth 100000 in
set_option maxHeartbeats 2000000 in
/-- The iterator over the letters of the inverse, for every loop body that keeps what lay below n₀. -/
theorem inverse1_in (n : Nat) (hn : 1 ≤ n) (l Bn n₀ : Nat) (a : Option Addr) (c : Nat) (L : List Int) (hL : ∀ x ∈ L, Word.Letter x) (hl24 : L.length ≤ 24) (J Jx : List Int → World → Prop)
    (hY : ∀ pre x W, J pre W → pre.length < L.length → YieldAt Fence.wide (n - 1) Try.prog l #[.int .i64 x] W fun e W' =>
      (e = .returned (.bool true) ∧ J (pre ++ [x]) W' ∧ KB n₀ Bn 42 W W') ∨ (e = .returned (.bool false) ∧ Jx (pre ++ [x]) W'))
    (W : World) (hBn : Boxed W Bn 42 (.slice a L.length c)) (hc : IntsAt W n₀ a L) (h0 : J [] W) :
    CallsIn Fence.wide n Try.prog 168 #[.func (.yield l) #[] #[], .pointer (some ⟨Bn, 0, none⟩)] W fun e W' => (∃ v, e = .returned v) ∧
      ((∃ ys, ys = Word.inv L ∧ J ys W') ∨ (∃ pre, True ∧ Jx pre W')) := by
  refine callsIn_of_wp Try.func168 rfl trivial ?_ rfl
  simp only [Try.ntmps168, List.size_toArray, List.length_cons, List.length_nil, Nat.reduceAdd, Nat.reduceSub, Array.replicate_succ, Array.replicate_zero, List.push_toArray, List.append_toArray, List.nil_append, List.cons_append]
  have Hc := Lib.hid hc
  have HL := Lib.hid hL
  have HY := Lib.hid hY
  have HBn := Lib.hid hBn
  have hcBn := hBn.cell
  clear hc hL hY hBn
  gi_wp2
  gi_loopw [3] (fun i wr => ∃ r : Nat, r ≤ L.length ∧ i = .int .i64 ((r : Int) - 1) ∧ J (Word.inv (L.drop r)) wr ∧ KB n₀ Bn 42 W wr) (fun i _ => (intOf i + 1).toNat)
  case atStart => exact ⟨L.length, Nat.le_refl _, rfl, by rw [List.drop_length]; exact h0, KB.refl _ _ _ _⟩
  case round =>
    obtain ⟨r, hr, rfl, hJs, hnx⟩ := hrel
    cases r with
    | zero =>
      gi_wp2
      go_end0
      exact ⟨⟨_, rfl⟩, .inl ⟨_, rfl, hJs⟩⟩
    | succ j =>
      have hj : j < L.length := by omega
      obtain ⟨b, o, rfl, hb, hc0⟩ := Hc.out j hj
      have hcj : wr.cell? ⟨b, o + j, none⟩ = some (.int .i64 L[j]) := (hnx.1.cell (p := ⟨b, o + j, none⟩) hb).trans hc0
      clear hc0
      have hbox := (hnx.2 _ HBn.out).cell
      obtain ⟨hx0, hx1, hx2⟩ := HL.out L[j] (List.getElem_mem hj)
      have hst := Word.inv_drop hj
      obtain ⟨fn, tmps, assign, body, hy, hR⟩ := HY.out _ (-L[j]) wr hJs (by rw [Word.inv_len, List.length_drop]; omega)
      rw [← hst] at hR
      have HR := Lib.hid hR
      clear hst hR
      generalize L[j] = x at *
      rw [show ((j + 1 : Nat) : Int) - 1 = (j : Int) from by omega]
      gi_wp2
      refine HR.out.mono ?_
      rintro e W3 (⟨rfl, hJ3, hk3⟩ | ⟨rfl, hJx3⟩)
      · gi_wp2
        go_roundw
        case rel => exact ⟨j, by omega, rfl, hJ3, hnx.t hk3⟩
        case measure => simp [intOf] <;> omega
      · gi_wp2
        refine bodyPost_ret (results_none rfl _ _ _) rfl ?_
        exact ⟨⟨_, rfl⟩, .inr ⟨_, trivial, hJx3⟩⟩

set_option maxRecDepth 100000 in
set_option maxHeartbeats 1000000 in
theorem inverseLetters_in (n : Nat) (a : Option Addr) (len cap : Nat) (w : World) :
    CallsIn Fence.wide n Try.prog 147 #[.slice a len cap] w fun e w' => e = .returned (.func (.func 168) #[] #[.pointer (some ⟨w.heap.size, 0, none⟩)]) ∧ w' = w.alloc (.cells #[.slice a len cap] 42) := by
  refine callsIn_of_wp Try.func147 rfl trivial ?_ rfl
  simp only [Try.ntmps147, List.size_toArray, List.length_cons, List.length_nil, Nat.reduceAdd, Nat.reduceSub, Array.replicate_succ, Array.replicate_zero, List.push_toArray, List.append_toArray, List.nil_append, List.cons_append]
  gi_wp2
  go_ret
  exact ⟨rfl, rfl⟩

theorem inverse_stops (n : Nat) (hn : 1 ≤ n) (Bn n₀ : Nat) (a : Option Addr) (c : Nat) (L : List Int) (hL : ∀ x ∈ L, Word.Letter x) (hl24 : L.length ≤ 24) (w : World) (hBn : Bn < w.heap.size) (hn₀ : n₀ ≤ w.heap.size)
    (hbox : Boxed w Bn 42 (.slice a L.length c)) (hc : IntsAt w n₀ a L) :
    SeqStopsK Fence.wide n Try.prog 168 #[.pointer (some ⟨Bn, 0, none⟩)] (fun x : Int => #[Value.int .i64 x]) (KB n₀ Bn 42) (fun ys => ys = Word.inv L) (fun _ => True) L.length w := fun l J Jx W hW _ _ hY h0 =>
  inverse1_in n hn l Bn n₀ a c L hL hl24 J Jx hY W ((hW.block Bn hBn).trans hbox) (hc.below hW hn₀) h0

theorem inverse_of {l : List Int} (h : Word.IsW l) : Word.inverse l = Word.inv l := if_pos h
theorem inverse_not {l : List Int} (h : ¬ Word.IsW l) : Word.inverse l = [] := if_neg h
theorem inverse_len (l : List Int) : (Word.inverse l).length ≤ 24 := by
  unfold Word.inverse; split
  · rename_i h; rw [Word.inv_len]; exact h.2
  · simp

set_option maxRecDepth 100000 in
set_option maxHeartbeats 2000000 in
theorem impl_InverseWord_in (a : Option Addr) (c : Nat) (l : List Int) (w : World) (ha : RowAt w a (intCells l)) (hW : Word.IsW l) :
    CallsIn Fence.wide 5 Try.prog 94 #[.slice a l.length c] w fun e w' => Gives w (Word.inv l) e w' := by
  have hl24 := hW.2
  have hcW := impl_IsWord a c l w ha (by omega)
  rw [decide_eq_true hW] at hcW
  have Hcw := Lib.hid hcW; clear hcW
  have HW := Lib.hid hW; clear hW
  obtain ⟨i0, hi, hz0, hz1, hz2⟩ := info_int_parts
  have Ha := Lib.hid ha; clear ha
  refine callsIn_of_wp_marks Try.func94 rfl trivial ?_ rfl
  simp only [Try.ntmps94, List.size_toArray, List.length_cons, List.length_nil, Nat.reduceAdd, Nat.reduceSub, Array.replicate_succ, Array.replicate_zero, List.push_toArray, List.append_toArray, List.nil_append, List.cons_append]
  gi_wp2_with (first
    | (refine ⟨trivial, ?_⟩; gi_at_call 143; refine (callsIn_wide.2 Hcw.out).mono ?_; rintro e w1 ⟨rfl, hb1⟩)
    | (refine ⟨trivial, ?_⟩; gi_at_call 147; refine (inverseLetters_in _ _ _ _ _).mono ?_; rintro e w' ⟨rfl, rfl⟩))
  have hb1' := Lib.hid hb1
  have bO := Boxed.new w1 42 (.slice none 0 0)
  have bN := Boxed.new (w1.alloc (.cells #[.slice none 0 0] 42)) 42 (.slice a l.length c)
  rw [World.size_alloc] at bN
  have hB0 : Below w1.heap.size w1 ((w1.alloc (.cells #[.slice none 0 0] 42)).alloc (.cells #[.slice a l.length c] 42)) := ((Below.refl _ w1).alloc (Nat.le_refl _) _).alloc (by simp) _
  have hB1 : Below w.heap.size w ((w1.alloc (.cells #[.slice none 0 0] 42)).alloc (.cells #[.slice a l.length c] 42)) := hb1.trans (hB0.mono hb1.size)
  refine wpIn_rangeFunc_ownG rfl (by omega) (gf := 168) (lb := #[.pointer (some ⟨w1.heap.size + 1, 0, none⟩)]) rfl trivial (enters_of Try.func168 (by kernel_rfl) rfl)
    (inverse_stops 4 (by omega) (w1.heap.size + 1) w1.heap.size a c l HW.out.1 hl24 _ (by simp) (by simp; omega) bN (IntsAt.of Ha.out hB1 hb1.size)) KB.t (KB.b (by simp; omega)) (Below.refl _ _) (fun _ => rfl)
    (fun pre W => (∃ v, Boxed W w1.heap.size 42 v ∧ W.ownsRow w1.heap.size 3 1 v pre.length (intCells pre) ∧ True) ∧ Below w1.heap.size w1 W)
    (fun _ _ _ => False)
    (OwnFrom.and (Own.from (holdsRow_own w1.heap.size w1.heap.size 42 3 1 (fun pre => pre.length) (fun pre => intCells pre) (fun _ _ => True)) _) (ownFrom_below (Nat.le_refl _) (by simp; omega)))
    (fun _ _ _ _ _ hs _ _ => hs)
    ⟨⟨_, bO.alloc _, World.ownsRow_nil _ _ _ _, trivial⟩, hB0⟩
    (fun x => { tmps := #[.slice a l.length c, undef, .slice none 0 0, .pointer (some ⟨w1.heap.size, 0, none⟩), .int .i64 x, .slice a l.length c, .bool true, .bool false, .slice a l.length c, .func (.func 168) #[] #[.pointer (some ⟨w1.heap.size + 1, 0, none⟩)], .int .i64 x, undef, undef, undef, undef, undef], defers := [] }) ?assign ?body ?done ?stop
  case assign =>
    intro l x W K hK
    gi_wp2
    exact hK
  case body =>
    rintro l' pre x W ⟨⟨v, hv, hrow, _⟩, hB⟩ hlt
    have hc := hv.cell
    have hle := hB.size
    gi_wp2_with (gi_at_builtin; refine wpListIn_append_own _ rfl _ _ 42 rfl w1.heap.size 3 i0 (.int .i64 0) 1 8 Try.underlying42 hi hz0 hz1 hz2 rfl (by decide) _ _ _ rfl (hrow.alloc _) ⟨W.heap.size, 0, none⟩ 1 1 [.int .i64 x] rfl rfl (cell_one_new _ _ _) (by simp [Value.oneCell']) (by unfold maxLen; omega) (by omega) (by simp; omega) ?_; intro v' w2 hown' hgrow _; obtain ⟨g', cap', rfl⟩ := ownsRow_succ hown'; obtain ⟨hv1, hv2, hr2, hk2, hb2⟩ := hv.appended (by decide) hrow hB.size (Nat.le_refl _) hown' hgrow; have hc1 := hv1.cell; have hf1 := hv1.frozen)
    exact ⟨hk2.from _, KB.appended hb2 (by decide) hrow hgrow (by omega), ⟨_, hv2, by rw [List.length_append, ← intCells_snoc]; exact hr2, trivial⟩, hB.trans hb2⟩
  case done =>
    rintro D ys W hD rfl ⟨⟨v, hv, hrow, _⟩, hB⟩ hK
    have hc := hv.cell
    gi_wp2
    refine ⟨by simp, .inl ⟨_, _, rfl, run_takeDeferred hK, ?_⟩⟩
    refine ⟨_, results_tmp rfl _ _ _, ?_⟩
    have hb := hB.trans (belowK_b (w := w1) (Nat.le_refl _) W D _ (.deferred none) (by simp at hD; omega) hK rfl rfl)
    exact own_gives (own_mono (ownsRow_putObj hrow _ hK rfl) hb1'.out.size) rfl (hb1'.out.trans (hb.mono hb1'.out.size))
  case stop =>
    rintro D c pre W _ _ h _
    exact h.elim

set_option maxRecDepth 10000 in
set_option maxHeartbeats 400000 in
theorem impl_InverseWord (a : Option Addr) (c : Nat) (l : List Int) (w : World) (ha : RowAt w a (intCells l)) (hl : l.length ≤ 1048576) :
    Calls Try.prog 94 #[.slice a l.length c] w fun e w' => Gives w (Word.inverse l) e w' := by
  by_cases hW : Word.IsW l
  · rw [inverse_of hW]
    exact callsIn_wide.1 (impl_InverseWord_in a c l w ha hW)
  · have hcW := impl_IsWord a c l w ha hl
    rw [decide_eq_false hW] at hcW
    have Hcw := Lib.hid hcW; clear hcW
    have HW := Lib.hid hW; clear hW
    go_enter Try.func94, Try.ntmps94
    go_wp2_with fail
    refine Hcw.out.mono ?_
    rintro e w1 ⟨rfl, hb1⟩
    go_wp2
    go_ret
    rw [inverse_not HW.out]
    exact Gives.none hb1

set_option maxRecDepth 10000 in
set_option maxHeartbeats 400000 in
theorem spec_l2Inverse_own (a : Option Addr) (c : Nat) (l : List Int) (w : World) (ha : RowAt w a (intCells l)) (hl : l.length ≤ 1000) (hL : ∀ x ∈ l, Word.Letter x) :
    Calls Try.prog 89 #[.slice a l.length c] w fun e w' => ∃ v, e = .returned v ∧ w'.ownsRow w.heap.size 3 1 v (Word.inv l).length (intCells (Word.inv l)) ∧ Below w.heap.size w w' := by
  have HL := Lib.hid hL; clear hL
  obtain ⟨i0, hi0, hz0, hz1, hz2⟩ := info_int_parts
  have Hi0 := Lib.hid hi0; have Hz0 := Lib.hid hz0; have Hz1 := Lib.hid hz1; have Hz2 := Lib.hid hz2
  clear hi0 hz0 hz1 hz2
  generalize hN : w.heap.size = N at *
  have HN := Lib.hid hN
  go_enter Try.func89, Try.ntmps89
  go_wp2
  clear hN
  go_loopw [3, 4] (fun ov iv wr => ∃ r : Nat, r ≤ l.length ∧ iv = .int .i64 ((r : Int) - 1) ∧ Below N w wr ∧ wr.ownsRow N 3 1 ov (l.length - r) (intCells (Word.inv (l.drop r)))) (fun _ iv _ => (intOf iv + 1).toNat)
  case atStart => exact ⟨l.length, by omega, rfl, by have h := (Below.refl w.heap.size w).alloc (Nat.le_refl _) (.cells #[] 3); rw [HN.out] at h; exact h, by have h := own_made HN.out; rw [HN.out] at h; rw [List.drop_length, Nat.sub_self]; exact h⟩
  case round =>
    obtain ⟨r, hr, rfl, hb, hown⟩ := hrel
    have hNle : N ≤ wr.heap.size := by have := hb.size; rw [HN.out] at this; exact this
    cases r with
    | zero =>
      have Hown := Lib.hid hown; clear hown
      go_wp2
      go_ret
      exact ⟨_, rfl, by rw [Word.inv_len]; exact Hown.out, hb⟩
    | succ j =>
      have hj : j < l.length := by omega
      have ha' : RowAt wr a (intCells l) := ha.below (by rw [HN.out]; exact hb)
      obtain ⟨b, o, rfl, hbw0, hcell⟩ := intCells_at ha' hj
      obtain ⟨hx0, hx1, hx2⟩ := HL.out l[j] (List.getElem_mem hj)
      have Hst := Lib.hid (Word.inv_drop hj)
      have hlj : l.length - (j + 1) + 1 = l.length - j := by omega
      generalize hx : l[j] = x at *
      have Hx := Lib.hid hx; clear hx
      have hc1 : l.length - (j + 1) + 1 ≤ maxLen := by unfold maxLen; omega
      have hc2 : (l.length - (j + 1) + 1) * 8 ≤ 140737488355328 := by omega
      obtain ⟨av, cv, rfl⟩ := own_len hown
      rw [show ((j + 1 : Nat) : Int) - 1 = (j : Int) from by omega]
      have Hlj := Lib.hid hlj; clear hlj
      go_wp2_with (at_builtin; refine append_one rfl (.tmp 13) (.tmp 19) 42 rfl N 3 i0 _ 8 Try.underlying42 Hi0.out Hz0.out Hz1.out Hz2.out (by rfl) _ _ _ rfl hown (by rfl) _ rfl hc1 hc2 hNle ?_; intro v1 w1 hown1 hg1 _)
      go_roundw
      case rel =>
        refine ⟨j, by omega, rfl, Below.grown (hb.alloc hNle _) hg1 (by simp; omega) (fun k hk => (hown.lt k hk).1), ?_⟩
        rw [Hst.out, ← intCells_snoc, ← Hlj.out]; exact hown1
      case measure => simp [intOf] <;> omega

theorem spec_l2Inverse (a : Option Addr) (c : Nat) (l : List Int) (w : World) (ha : RowAt w a (intCells l)) (hl : l.length ≤ 1000) (hL : ∀ x ∈ l, Word.Letter x) :
    Calls Try.prog 89 #[.slice a l.length c] w fun e w' => Gives w (Word.inv l) e w' :=
  (spec_l2Inverse_own a c l w ha hl hL).mono (fun e w' ⟨v, he, ho, hb⟩ => by rw [he]; exact own_gives ho rfl hb)

end Go.Proofs.Ytpebgompfgkljaa
