/-
  The walk of the program's ParseWord (a range over a function whose body returns).
-/
import Derived.RangeFuncBox
import Derived.RangeFuncLeaves
import Derived.Shelf.Abstract
import Derived.OwnWalkIn
import Derived.TacticsInMore
import Derived.LoopNIn
import Derived.LoopIn
import Derived.Maps.AppendAt
import Derived.Test.YtfhecfggfccajaaDoorBase
import Derived.Test.YtfhecfggfccajaaDoorSlice
import Derived.Test.YtfhecfggfccajaaDoorInts
import Derived.Test.YtfhecfggfccajaaDoorOwn
import Derived.Test.YtfhecfggfccajaaDoorWord
import Derived.Test.YtfhecfggfccajaaDoorIter
import Derived.Test.YtfhecfggfccajaaDoorParseWord
namespace Go.Proofs.YtfhecfggfccajaaDoor
open Go.RowKit Go.Shelf

attribute [local go_sem] Oper.semAt_some

set_option maxRecDepth 10000 in
set_option maxHeartbeats 400000 in
theorem impl_letterOfByte (b : UInt8) (w : World) : Calls Tryd.prog 83 #[.int .u8 (b.toNat : Int)] w fun e w' => e = .returned (.int .i64 (Word.letterOf b)) ∧ w' = w := by
  have hb256 := UInt8.toNat_lt b
  by_cases hl1 : 97 ≤ (b.toNat : Int) ∧ (b.toNat : Int) ≤ 104
  · obtain ⟨h1, h2⟩ := hl1
    have Hv := Lib.hid (Word.letterOf_low h1 h2)
    have h3 : (b.toNat : Int) < 105 := by omega
    go_enter Tryd.func83, Tryd.ntmps83
    go_wp2
    go_ret
    refine ⟨?_, rfl⟩
    rw [Hv.out]; rfl
  · by_cases hl2 : 65 ≤ (b.toNat : Int) ∧ (b.toNat : Int) ≤ 72
    · obtain ⟨h1, h2⟩ := hl2
      have Hv := Lib.hid (Word.letterOf_up h1 h2)
      clear hl1
      have h3 : ¬ (97 ≤ (b.toNat : Int)) := by omega
      have h4 : (b.toNat : Int) < 73 := by omega
      go_enter Tryd.func83, Tryd.ntmps83
      go_wp2
      go_ret
      refine ⟨?_, rfl⟩
      rw [Hv.out]
      exact congrArg (fun z => Ending.returned (Value.int .i64 z)) (by omega)
    · have Hv := Lib.hid (Word.letterOf_none hl1 hl2)
      rcases (show (b.toNat : Int) < 65 ∨ (73 ≤ (b.toNat : Int) ∧ (b.toNat : Int) < 97) ∨ 105 ≤ (b.toNat : Int) by omega) with h1 | ⟨h1, h2⟩ | h1
      all_goals clear hl1 hl2
      all_goals
        go_enter Tryd.func83, Tryd.ntmps83
        go_wp2
        go_ret
        refine ⟨?_, rfl⟩
        rw [Hv.out]; rfl

set_option maxRecDepth 100000 in
set_option maxHeartbeats 2000000 in
/-- The iterator over the letters of a text, for every loop body that keeps what lay below n₀ and the text's box. -/
theorem letters1_in (n : Nat) (hn : 1 ≤ n) (l Bn n₀ : Nat) (s : ByteArray) (hs : s.size ≤ 1048576) (J Jx : List Int → World → Prop)
    (hY : ∀ pre x W, J pre W → pre.length < s.size → YieldAt Fence.wide (n - 1) Tryd.prog l #[.int .i64 x] W fun e W' =>
      (e = .returned (.bool true) ∧ J (pre ++ [x]) W' ∧ KB n₀ Bn 9 W W') ∨ (e = .returned (.bool false) ∧ Jx (pre ++ [x]) W'))
    (W : World) (hBn : Boxed W Bn 9 (.string s)) (h0 : J [] W) :
    CallsIn Fence.wide n Tryd.prog 82 #[.func (.yield l) #[] #[], .pointer (some ⟨Bn, 0, none⟩)] W fun e W' => (∃ v, e = .returned v) ∧
      ((∃ ys, ys = s.data.toList.map Word.letterOf ∧ J ys W') ∨ (∃ pre, (∃ k, pre = (s.data.toList.take k).map Word.letterOf) ∧ Jx pre W')) := by
  refine callsIn_of_wp Tryd.func82 rfl trivial ?_ rfl
  simp only [Tryd.ntmps82, List.size_toArray, List.length_cons, List.length_nil, Nat.reduceAdd, Nat.reduceSub, Array.replicate_succ, Array.replicate_zero, List.push_toArray, List.append_toArray, List.nil_append, List.cons_append]
  have HY := Lib.hid hY
  have HBn := Lib.hid hBn
  have hcBn := hBn.cell
  have hsl : s.data.toList.length = s.size := by simp
  have Hsl := Lib.hid hsl
  clear hY hBn hsl
  gi_wp2
  gi_loopw [3, 6] (fun _ i wr => ∃ k : Nat, k ≤ s.size ∧ i = .int .i64 k ∧ J ((s.data.toList.take k).map Word.letterOf) wr ∧ KB n₀ Bn 9 W wr) (fun _ i _ => s.size - (intOf i).toNat)
  case atStart => exact ⟨0, Nat.zero_le _, rfl, h0, KB.refl _ _ _ _⟩
  case round =>
    obtain ⟨k, hk, rfl, hJs, hnx⟩ := hrel
    by_cases hlt : k < s.size
    · have hlt' : k < s.data.toList.length := by rw [Hsl.out]; exact hlt
      have hbox := (hnx.2 _ HBn.out).cell
      have hst := Word.map_take hlt'
      rw [show s.data.toList[k] = s[k] from rfl] at hst
      obtain ⟨fn, tmps, assign, body, hy, hR⟩ := HY.out _ (Word.letterOf s[k]) wr hJs (by rw [List.length_map, List.length_take, Hsl.out]; omega)
      rw [← hst] at hR
      have HR := Lib.hid hR
      have Hlb := Lib.hid (impl_letterOfByte s[k] wr)
      clear hst hR
      gi_wp2_with (refine ⟨trivial, ?_⟩; gi_at_call 83; refine (callsIn_wide.2 Hlb.out).mono ?_; rintro e w2 ⟨rfl, rfl⟩)
      refine HR.out.mono ?_
      rintro e W3 (⟨rfl, hJ3, hk3⟩ | ⟨rfl, hJx3⟩)
      · gi_wp2
        go_roundw
        case rel => exact ⟨k + 1, by omega, by go_num, hJ3, hnx.t hk3⟩
        case measure => simp [intOf]; omega
      · gi_wp2
        refine bodyPost_ret (results_none rfl _ _ _) rfl ?_
        exact ⟨⟨_, rfl⟩, .inr ⟨_, ⟨k + 1, rfl⟩, hJx3⟩⟩
    · obtain rfl : k = s.size := by omega
      gi_wp2
      go_end0
      refine ⟨⟨_, rfl⟩, .inl ⟨_, ?_, hJs⟩⟩
      rw [List.take_of_length_le (by rw [Hsl.out]; exact Nat.le_refl _)]

set_option maxRecDepth 100000 in
set_option maxHeartbeats 1000000 in
theorem lettersOfText_in (n : Nat) (s : ByteArray) (w : World) :
    CallsIn Fence.wide n Tryd.prog 73 #[.string s] w fun e w' => e = .returned (.func (.func 82) #[] #[.pointer (some ⟨w.heap.size, 0, none⟩)]) ∧ w' = w.alloc (.cells #[.string s] 9) := by
  refine callsIn_of_wp Tryd.func73 rfl trivial ?_ rfl
  simp only [Tryd.ntmps73, List.size_toArray, List.length_cons, List.length_nil, Nat.reduceAdd, Nat.reduceSub, Array.replicate_succ, Array.replicate_zero, List.push_toArray, List.append_toArray, List.nil_append, List.cons_append]
  gi_wp2
  go_ret
  exact ⟨rfl, rfl⟩

theorem letters_stops (n : Nat) (hn : 1 ≤ n) (Bn n₀ : Nat) (s : ByteArray) (hs : s.size ≤ 1048576) (w : World) (hBn : Bn < w.heap.size) (hbox : Boxed w Bn 9 (.string s)) :
    SeqStopsK Fence.wide n Tryd.prog 82 #[.pointer (some ⟨Bn, 0, none⟩)] (fun x : Int => #[Value.int .i64 x]) (KB n₀ Bn 9) (fun ys => ys = s.data.toList.map Word.letterOf) (fun pre => ∃ k, pre = (s.data.toList.take k).map Word.letterOf) s.size w := fun l J Jx W hW _ _ hY h0 =>
  letters1_in n hn l Bn n₀ s hs J Jx hY W ((hW.block Bn hBn).trans hbox) h0

theorem own_into {W : World} {n₀ B k : Nat} {t : TypeId} {v u u' : Value} {xs : List Value} (h : W.ownsRow n₀ 3 1 v k xs) (hb : Boxed W B t u) (ht : t ≠ 3) : (W.setCell ⟨B, 0, none⟩ u').ownsRow n₀ 3 1 v k xs :=
  h.kept (grownBy_setCell' W B u') (.inr (hb.not_row ht h).symm)

set_option maxRecDepth 100000 in
set_option maxHeartbeats 2000000 in
theorem impl_ParseWord_in (s : ByteArray) (w : World) (h45 : s.data.toList ≠ [45]) (hz : s.size ≠ 0) (h24 : s.size ≤ 24) :
    CallsIn Fence.wide 5 Tryd.prog 38 #[.string s] w fun e w' => Gives2 w (Word.parsed s.data.toList) (decide (Word.Parses s.data.toList)) e w' := by
  have hbeq : (s.toList == [45]) = false := by rw [beq_eq_false_iff_ne, ByteArray.toList_eq]; exact h45
  have hz' : ((s.size : Int) == 0) = false := by rw [beq_eq_false_iff_ne]; omega
  have h24' : decide (24 < (s.size : Int)) = false := by simp; omega
  have h24n : ¬ (24 < (s.size : Int)) := by omega
  have H45 := Lib.hid h45; clear h45
  have hsl : s.data.toList.length = s.size := by simp
  have Hsl := Lib.hid hsl; clear hsl
  obtain ⟨i0, hi, hz0, hz1, hz2⟩ := info_int_parts
  refine callsIn_of_wp_marks Tryd.func38 rfl trivial ?_ rfl
  simp only [Tryd.ntmps38, List.size_toArray, List.length_cons, List.length_nil, Nat.reduceAdd, Nat.reduceSub, Array.replicate_succ, Array.replicate_zero, List.push_toArray, List.append_toArray, List.nil_append, List.cons_append]
  gi_wp2_with (refine ⟨trivial, ?_⟩; gi_at_call 73; refine (lettersOfText_in _ _ _).mono ?_; rintro e w' ⟨rfl, rfl⟩)
  generalize hN : w.heap.size = N at *
  obtain ⟨wB, hwB⟩ : ∃ wB, (((w.alloc (.cells #[.slice none 0 0] 32)).alloc (.cells #[.bool false] 4)).alloc (.cells #[.slice none 0 0] 32)).alloc (.cells #[.string s] 9) = wB := ⟨_, rfl⟩
  have hsz : wB.heap.size = N + 4 := by rw [← hwB, ← hN]; simp
  have b1 : Boxed wB N 32 (.slice none 0 0) := by
    rw [← hwB, ← hN]; exact (((Boxed.new w _ _).alloc _).alloc _).alloc _
  have b2 : Boxed wB (N + 1) 4 (.bool false) := by
    rw [← hwB, ← hN]
    have := Boxed.new (w.alloc (.cells #[.slice none 0 0] 32)) 4 (.bool false)
    rw [World.size_alloc] at this
    exact (this.alloc _).alloc _
  have b3 : Boxed wB (N + 1 + 1) 32 (.slice none 0 0) := by
    rw [← hwB, ← hN]
    have := Boxed.new ((w.alloc (.cells #[.slice none 0 0] 32)).alloc (.cells #[.bool false] 4)) 32 (.slice none 0 0)
    rw [World.size_alloc, World.size_alloc] at this
    exact this.alloc _
  have b4 : Boxed wB (N + 1 + 1 + 1) 9 (.string s) := by
    rw [← hwB, ← hN]
    have := Boxed.new (((w.alloc (.cells #[.slice none 0 0] 32)).alloc (.cells #[.bool false] 4)).alloc (.cells #[.slice none 0 0] 32)) 9 (.string s)
    rw [World.size_alloc, World.size_alloc, World.size_alloc] at this
    exact this
  have hB0 : Below N w wB := by
    rw [← hwB]
    exact ((((Below.refl N w).alloc (by omega) _).alloc (by simp; omega) _).alloc (by simp; omega) _).alloc (by simp; omega) _
  rw [hwB]
  clear hwB
  refine wpIn_rangeFunc_ownG rfl (by omega) (gf := 82) (lb := #[.pointer (some ⟨N + 1 + 1 + 1, 0, none⟩)]) rfl trivial (enters_of Tryd.func82 (by kernel_rfl) rfl)
    (letters_stops 4 (by omega) (N + 1 + 1 + 1) N s (by omega) wB (by omega) b4) KB.t (KB.b (by omega)) (Below.refl _ _) (fun _ => rfl)
    (fun pre W => (∃ v, Boxed W (N + 1 + 1) 32 v ∧ W.ownsRow N 3 1 v pre.length (intCells pre) ∧ ∀ y ∈ pre, y ≠ 0) ∧ Boxed W N 32 (.slice none 0 0) ∧ Boxed W (N + 1) 4 (.bool false) ∧ Below N w W)
    (fun c pre W => (c = .ret ∧ ∃ y ∈ pre, y = 0) ∧ Boxed W N 32 (.slice none 0 0) ∧ Boxed W (N + 1) 4 (.bool false) ∧ Below N w W)
    (OwnFrom.and (Own.from (holdsRow_own N (N + 1 + 1) 32 3 1 (fun pre => pre.length) (fun pre => intCells pre) (fun pre _ => ∀ y ∈ pre, y ≠ 0)) _) (OwnFrom.and (Own.from (boxed_own _ _ _) _) (OwnFrom.and (Own.from (boxed_own _ _ _) _) (ownFrom_below (Nat.le_of_eq hN.symm) (by omega)))))
    (fun c => OwnFrom.and (ownFrom_pure _ _) (OwnFrom.and (Own.from (boxed_own _ _ _) _) (OwnFrom.and (Own.from (boxed_own _ _ _) _) (ownFrom_below (Nat.le_of_eq hN.symm) (by omega)))))
    ⟨⟨_, b3, World.ownsRow_nil _ _ _ _, fun _ h => by cases h⟩, b1, b2, hB0⟩
    (fun x => { tmps := #[.string s, undef, .pointer (some ⟨N, 0, none⟩), .pointer (some ⟨N + 1, 0, none⟩), .pointer (some ⟨N + 1 + 1, 0, none⟩), .int .i64 x, .string s, .bool false, .string s, .int .i64 s.size, .bool false, .bool false, .string s, .int .i64 s.size, .bool false, .bool false, .string s, .func (.func 82) #[] #[.pointer (some ⟨N + 1 + 1 + 1, 0, none⟩)], .int .i64 x, undef, undef, undef, undef, undef, undef, undef], defers := [] }) ?assign ?body ?done ?stop
  case assign =>
    intro l x W K hK
    gi_wp2
    exact hK
  case body =>
    rintro l' pre x W ⟨⟨v, hv, hrow, hne⟩, hr1, hr2, hB⟩ hlt
    have hc := hv.cell
    have hle : N ≤ W.heap.size := by have := hB.size; omega
    by_cases hx : x = 0
    · have hx' : (x == 0) = true := by rw [beq_iff_eq]; exact hx
      have hcr1 := hr1.cell
      have hfr1 := hr1.frozen
      have hs1 := hr1.set (.slice none 0 0)
      have hs2 := hr2.other (B' := N) (by omega) (.slice none 0 0)
      have hcr2 := hs2.cell
      have hfr2 := hs2.frozen
      have hB1 := hB.setCell (p := ⟨N, 0, none⟩) (Nat.le_refl _) (.slice none 0 0)
      gi_wp2
      refine ⟨(KeepsOthers.setCell W ⟨N, 0, none⟩ (.slice none 0 0)).trans (KeepsOthers.setCell _ ⟨N + 1, 0, none⟩ (.bool false)) |>.from _, ⟨rfl, x, List.mem_append.2 (.inr (by simp)), hx⟩, hs1.other (by omega) _, hs2.set _, hB1.setCell (p := ⟨N + 1, 0, none⟩) (by show N ≤ N + 1; omega) _⟩
    · have hx' : (x == 0) = false := by rw [beq_eq_false_iff_ne]; exact hx
      gi_wp2_with (gi_at_builtin; refine wpListIn_append_own _ rfl _ _ 32 rfl N 3 i0 (.int .i64 0) 1 8 Tryd.underlying32 hi hz0 hz1 hz2 rfl (by decide) _ _ _ rfl (hrow.alloc _) ⟨W.heap.size, 0, none⟩ 1 1 [.int .i64 x] rfl rfl (cell_one_new _ _ _) (by simp [Value.oneCell']) (by unfold maxLen; omega) (by omega) (by simp; omega) ?_; intro v' w2 hown' hgrow _; obtain ⟨g', cap', rfl⟩ := ownsRow_succ hown'; obtain ⟨hv1, hv2, hr3, hk2, hb2⟩ := hv.appended (by decide) hrow hle (by omega) hown' hgrow; have hc1 := hv1.cell; have hf1 := hv1.frozen)
      have hq1 := ((hr1.alloc _).kept hgrow (hr1.not_row (by decide) hrow)).other (B' := N + 1 + 1) (by omega) (.slice (some ⟨g', 0, none⟩) (pre.length + 1) cap')
      have hq2 := ((hr2.alloc _).kept hgrow (hr2.not_row (by decide) hrow)).other (B' := N + 1 + 1) (by omega) (.slice (some ⟨g', 0, none⟩) (pre.length + 1) cap')
      exact ⟨hk2.from _, KB.appended hb2 (by decide) hrow hgrow (by omega), ⟨_, hv2, by rw [List.length_append, ← intCells_snoc]; exact hr3, fun y hy => (List.mem_append.1 hy).elim (hne y) (fun e => by simp at e; rw [e]; exact hx)⟩, hq1, hq2, hB.trans hb2⟩
  case done =>
    rintro D ys W hD hys ⟨⟨v, hv, hrow, hne⟩, hr1, hr2, hB⟩ hK
    have Hys := Lib.hid hys; clear hys
    have hc := hv.cell
    have hcr1 := hr1.cell
    have hfr1 := hr1.frozen
    obtain ⟨av, cv, rfl⟩ := own_len hrow
    have hs1 := hr1.set (.slice av ys.length cv)
    have hs2 := hr2.other (B' := N) (by omega) (.slice av ys.length cv)
    have hcr2 := hs2.cell
    have hfr2 := hs2.frozen
    have ho1 := own_into (u' := .slice av ys.length cv) hrow hr1 (by decide)
    have ho2 := own_into (u' := .bool true) ho1 hs2 (by decide)
    have ht1 := hs1.other (B' := N + 1) (by omega) (.bool true)
    have ht2 := hs2.set (.bool true)
    have hK1 := (KeepsOthers.setCell W ⟨N, 0, none⟩ (.slice av ys.length cv)).same D _ hK rfl
    have hK2 := (KeepsOthers.setCell _ ⟨N + 1, 0, none⟩ (.bool true)).same D _ hK1 rfl
    have hB1 := hB.setCell (p := ⟨N, 0, none⟩) (Nat.le_refl _) (.slice av ys.length cv)
    have hB2 := hB1.setCell (p := ⟨N + 1, 0, none⟩) (by show N ≤ N + 1; omega) (.bool true)
    have hok : Word.Parses s.data.toList := by
      refine Word.parses_of (fun j hj _ => hne _ (by rw [Hys.out]; exact List.mem_map.2 ⟨_, List.getElem_mem hj, rfl⟩)) (by rw [Hsl.out]; exact hz) (by rw [Hsl.out]; exact h24)
    have Hok := Lib.hid hok; clear hok
    gi_wp2
    all_goals first | (refine ⟨by simp, ?_⟩) | (simp; done) | skip
    refine .inl ⟨_, _, rfl, run_takeDeferred hK2, ?_⟩
    have hb := hB2.trans (belowK_b (w := w) (n₀ := N) (Nat.le_of_eq hN.symm) _ D _ (.deferred none) (by omega) hK2 rfl rfl)
    have hc5 := cell_kept ht1.cell (grownBy_putObj' _ D (.deferred none)) (fun r e => by cases e; exact ⟨_, hK2, rfl⟩)
    have hc6 := cell_kept ht2.cell (grownBy_putObj' _ D (.deferred none)) (fun r e => by cases e; exact ⟨_, hK2, rfl⟩)
    refine ⟨.tuple #[.slice av ys.length cv, .bool true], ?_, ?_⟩
    · simp [results, Tryd.f38, go_sem, hc5, hc6]
    · rw [Word.parsed_of H45.out Hok.out, decide_eq_true Hok.out, ← Hys.out]
      exact (own_gives (by rw [hN]; exact ownsRow_putObj ho2 (.deferred none) hK2 rfl) rfl (by rw [hN]; exact hb)).with
  case stop =>
    rintro D c pre W hD ⟨k, hpre⟩ ⟨⟨rfl, y, hy, hy0⟩, hr1, hr2, hB⟩ hK
    have hno : ¬ Word.Parses s.data.toList := by
      rw [hpre, List.mem_map] at hy
      obtain ⟨b, hb, hbe⟩ := hy
      rintro (h | ⟨_, _, h⟩)
      · exact H45.out h
      · exact h b (List.mem_of_mem_take hb) (by rw [hbe]; exact hy0)
    have Hno := Lib.hid hno; clear hno hpre hy
    gi_wp2
    all_goals first | (refine ⟨by simp, ?_⟩) | (simp; done) | skip
    refine .inl ⟨_, _, rfl, run_takeDeferred hK, ?_⟩
    have hb := hB.trans (belowK_b (w := w) (n₀ := N) (Nat.le_of_eq hN.symm) _ D _ (.deferred none) (by omega) hK rfl rfl)
    have hc5 := cell_kept hr1.cell (grownBy_putObj' _ D (.deferred none)) (fun r e => by cases e; exact ⟨_, hK, rfl⟩)
    have hc6 := cell_kept hr2.cell (grownBy_putObj' _ D (.deferred none)) (fun r e => by cases e; exact ⟨_, hK, rfl⟩)
    refine ⟨.tuple #[.slice none 0 0, .bool false], ?_, ?_⟩
    · simp [results, Tryd.f38, go_sem, hc5, hc6]
    · rw [Word.parsed_not H45.out Hno.out, decide_eq_false Hno.out]
      exact Gives2.none (by rw [hN]; exact hb)

set_option maxRecDepth 10000 in
set_option maxHeartbeats 400000 in
theorem impl_ParseWord (s : ByteArray) (w : World) (hs : s.size ≤ 1048576) :
    Calls Tryd.prog 38 #[.string s] w fun e w' => Gives2 w (Word.parsed s.data.toList) (decide (Word.Parses s.data.toList)) e w' := by
  by_cases h45 : s = ⟨#[45]⟩
  · subst h45
    go_enter Tryd.func38, Tryd.ntmps38
    go_wp2
    refine bodyPost_ret (v := .tuple #[.slice none 0 0, .bool true]) (by simp [results, Tryd.f38, go_sem]) rfl ?_
    rw [show Word.parsed [45] = [] from rfl, show decide (Word.Parses [45]) = true from rfl]
    exact Gives2.none (((Below.refl _ w).alloc (Nat.le_refl _) _).alloc (by simp) _)
  · have h45' : s.data.toList ≠ [45] := fun e => h45 (ByteArray.ext (by rw [← Array.toList_inj]; exact e))
    have hbeq : (s.toList == [45]) = false := by rw [beq_eq_false_iff_ne, ByteArray.toList_eq]; exact h45'
    have hsl : s.data.toList.length = s.size := by simp
    by_cases hz : s.size = 0
    · have hz' : ((s.size : Int) == 0) = true := by rw [beq_iff_eq]; omega
      have hno := Word.not_parses_len h45' (Or.inl (by rw [hsl]; exact hz))
      have Hno := Lib.hid hno; have H45 := Lib.hid h45'
      clear hno h45' hsl h45
      go_enter Tryd.func38, Tryd.ntmps38
      go_wp2
      refine bodyPost_ret (v := .tuple #[.slice none 0 0, .bool false]) (by simp [results, Tryd.f38, go_sem]) rfl ?_
      rw [Word.parsed_not H45.out Hno.out, decide_eq_false Hno.out]
      exact Gives2.none (((Below.refl _ w).alloc (Nat.le_refl _) _).alloc (by simp) _)
    · by_cases h24 : s.size ≤ 24
      · exact callsIn_wide.1 (impl_ParseWord_in s w h45' hz h24)
      · have hz' : ((s.size : Int) == 0) = false := by rw [beq_eq_false_iff_ne]; omega
        have h24' : 24 < (s.size : Int) := by omega
        have hno := Word.not_parses_len h45' (Or.inr (by rw [hsl]; omega))
        have Hno := Lib.hid hno; have H45 := Lib.hid h45'
        clear hno h45' hsl h45
        go_enter Tryd.func38, Tryd.ntmps38
        go_wp2
        refine bodyPost_ret (v := .tuple #[.slice none 0 0, .bool false]) (by simp [results, Tryd.f38, go_sem]) rfl ?_
        rw [Word.parsed_not H45.out Hno.out, decide_eq_false Hno.out]
        exact Gives2.none (((Below.refl _ w).alloc (Nat.le_refl _) _).alloc (by simp) _)
end Go.Proofs.YtfhecfggfccajaaDoor
