/-
  The walk of spec.Join: the texts with the separator between them.
-/
import Derived.Test.YtpgdmbolckogcaaDoorBase
import Derived.Test.YtpgdmbolckogcaaDoorSlice
import Derived.Test.YtpgdmbolckogcaaDoorStrs
import Derived.Lib.AppendStr
import Derived.Lib.Join
namespace Go.Proofs.YtpgdmbolckogcaaDoor
open Go.RowKit

namespace Join
def texts (l : List ByteArray) : List (List UInt8) := l.map (·.data.toList)
theorem join_snoc (r : List (List UInt8)) (y sep : List UInt8) (h : r ≠ []) : Lib.join (r ++ [y]) sep = Lib.join r sep ++ (sep ++ y) := by
  cases r with
  | nil => exact absurd rfl h
  | cons x r => rw [List.cons_append, Lib.join_cons, Lib.join_cons]; simp [Lib.joinTail]
theorem join_len (r : List (List UInt8)) (sep : List UInt8) : (Lib.join r sep).length ≤ (r.map List.length).sum + r.length * sep.length := by
  cases r with
  | nil => simp [Lib.join_nil]
  | cons x r =>
    rw [Lib.join_cons]
    have : (Lib.joinTail sep r).length = (r.map List.length).sum + r.length * sep.length := by
      induction r with
      | nil => simp [Lib.joinTail]
      | cons y r ih => simp [Lib.joinTail] at ih ⊢; rw [ih, Nat.add_mul]; omega
    simp only [List.length_append, List.map_cons, List.sum_cons, List.length_cons, this, Nat.add_mul]; omega
theorem texts_sum (l : List ByteArray) : ((texts l).map List.length).sum = total l := by
  unfold texts total
  rw [List.map_map]; rfl
theorem sum_take_le (l : List Nat) (i : Nat) : (l.take i).sum ≤ l.sum := by
  conv => rhs; rw [← List.take_append_drop i l, List.sum_append]
  omega
theorem pre_len (l : List ByteArray) (sep : ByteArray) (i : Nat) (hl : l.length + total l ≤ 1048576) (hs : sep.size ≤ 1048576) : (Lib.join (texts (l.take i)) sep.data.toList).length ≤ 1100000000000 := by
  refine Nat.le_trans (join_len _ _) ?_
  rw [texts_sum]
  have h1 : total (l.take i) ≤ total l := by unfold total; rw [List.map_take]; exact sum_take_le _ _
  have h2 : (texts (l.take i)).length ≤ 1048576 := by simp [texts]; omega
  have h3 : sep.data.toList.length ≤ 1048576 := by simpa using hs
  have h4 : (texts (l.take i)).length * sep.data.toList.length ≤ 1048576 * 1048576 := Nat.mul_le_mul h2 h3
  omega
theorem texts_snoc (l : List ByteArray) (i : Nat) (h : i < l.length) : texts (l.take (i + 1)) = texts (l.take i) ++ [l[i].data.toList] := by
  unfold texts
  rw [List.take_succ_eq_append_getElem h, List.map_append]; rfl
theorem step_first (l : List ByteArray) (sep : List UInt8) (h : 0 < l.length) : Lib.join (texts (l.take (0 + 1))) sep = Lib.join (texts (l.take 0)) sep ++ l[0].data.toList := by
  rw [texts_snoc l 0 h]; simp [texts, Lib.join_nil, Lib.join_one]
theorem step_next (l : List ByteArray) (sep : List UInt8) (i : Nat) (h : i < l.length) (h0 : i ≠ 0) : Lib.join (texts (l.take (i + 1))) sep = Lib.join (texts (l.take i)) sep ++ (sep ++ l[i].data.toList) := by
  rw [texts_snoc l i h, join_snoc]
  intro e
  have := congrArg List.length e
  rw [texts, List.length_map, List.length_take, List.length_nil] at this
  omega
/-- The cells of bytes. -/
def cells (l : List UInt8) : List Value := l.map fun b => Value.int .u8 (b.toNat : Int)
theorem cells_append (l : List UInt8) (s : ByteArray) : cells l ++ Lib.strCells s = cells (l ++ s.data.toList) := by simp [cells, Lib.strCells]
theorem conv_own (w : World) (base : Nat) (v : Value) (l : List UInt8) (h : w.ownsRow base 5 1 v l.length (cells l)) :
    (convert 31 9 v).run Tryd.prog w = .ok (.string ⟨l.toArray⟩) w := by
  obtain ⟨_, ⟨rfl, h0⟩ | ⟨g, cap, cur, rfl, hb, hh, hn, hm, hc, ht⟩⟩ := h
  · obtain rfl : l = [] := List.eq_nil_of_length_eq_zero h0
    rw [run_convert_bytes_string w 31 9 5 none 0 0 Tryd.underlying31 Tryd.underlying5 Tryd.underlying9]; rfl
  · refine run_convert_bytes_back w 31 9 5 ⟨g, 0, none⟩ cap l Tryd.underlying31 Tryd.underlying5 Tryd.underlying9 (fun j hj => ?_)
    have e : (⟨g, 0, none⟩ : Addr).add j = ⟨g, j, none⟩ := by unfold Addr.add; split <;> simp_all
    rw [e, cell_of_row w g j cur _ _ hh]
    have h1 : (cells l)[j]? = some (Value.int .u8 (l[j].toNat : Int)) := by simp [cells, hj]
    rw [← ht, List.getElem?_take] at h1
    rw [if_pos (by simpa using hj)] at h1
    simpa using h1
theorem total_le (l : List ByteArray) (B : Nat) (h : ∀ x ∈ l, x.size ≤ B) : total l ≤ l.length * B := by
  induction l with
  | nil => simp [total]
  | cons x l ih =>
    have h1 := h x (List.mem_cons_self ..)
    have h2 := ih (fun y hy => h y (List.mem_cons_of_mem _ hy))
    simp only [total, List.map_cons, List.sum_cons, List.length_cons, Nat.add_mul, Nat.one_mul] at h2 ⊢
    omega
end Join

theorem info_u8 : (Tryd.prog.info? 5).map (fun i => (i.zero, i.size, i.bytes)) = some (some (.int .u8 0), 1, 1) := by kernel_rfl

set_option maxRecDepth 10000 in
set_option maxHeartbeats 400000 in
theorem spec_Join (a : Option Addr) (c : Nat) (l : List ByteArray) (sep : ByteArray) (w : World) (ha : RowAt w a (strCells l)) (hl : l.length + total l ≤ 1048576) (hs : sep.size ≤ 1048576) :
    Calls Tryd.prog 43 #[.slice a l.length c, .string sep] w fun e w' => e = .returned (.string ⟨(Lib.join (Join.texts l) sep.data.toList).toArray⟩) ∧ Below w.heap.size w w' := by
  obtain ⟨i0, hi0, hz0, hz1, hz2⟩ := info_parts info_u8
  have Hinfo := Lib.hid (show Tryd.prog.info? 5 = some i0 ∧ i0.zero = some (.int .u8 0) ∧ i0.size = 1 ∧ i0.bytes = 1 from ⟨hi0, hz0, hz1, hz2⟩)
  clear hi0 hz0 hz1 hz2
  generalize hN : w.heap.size = N
  have HN := Lib.hid hN
  go_enter Tryd.func43, Tryd.ntmps43
  go_wp2
  clear hN
  go_loopw [5, 6] (fun ov iv wr => ∃ i : Nat, i ≤ l.length ∧ iv = .int .i64 i ∧ Below N w wr ∧ wr.ownsRow N 5 1 ov (Lib.join (Join.texts (l.take i)) sep.data.toList).length (Join.cells (Lib.join (Join.texts (l.take i)) sep.data.toList))) (fun _ iv _ => l.length - (intOf iv).toNat)
  case atStart => exact ⟨0, by omega, rfl, by have h := (Below.refl w.heap.size w).alloc (Nat.le_refl _) (.cells #[] 5); rw [HN.out] at h; exact h, by
    have h := World.ownsRow_made (base := w.heap.size) (e := 5) (size := 1) w #[] 0 (Nat.le_refl _) (by unfold maxLen; omega) (by rfl)
    rw [HN.out] at h; exact h⟩
  case round =>
    obtain ⟨i, hi, rfl, hb, hown⟩ := hrel
    by_cases hlt : i < l.length
    · have ha' : RowAt wr a (strCells l) := ha.below (by rw [HN.out]; exact hb)
      obtain ⟨b, o, rfl, hbw0, hcell0⟩ := strCells_at ha hlt
      have hcell : wr.cell? ⟨b, o + i, none⟩ = some (.string l[i]) := by rw [hb.cell (p := ⟨b, o + i, none⟩) (by rw [← HN.out]; exact hbw0)]; exact hcell0
      clear hcell0
      have hlb := hs
      have hpl := Join.pre_len l sep i hl hs
      have hpl1 := Join.pre_len l sep (i + 1) hl hs
      have hNle : N ≤ wr.heap.size := by have := hb.size; rw [HN.out] at this; exact this
      obtain ⟨hi0, hz0, hz1, hz2⟩ := Hinfo.out
      have Hi0 := Lib.hid hi0; have Hz0 := Lib.hid hz0; have Hz1 := Lib.hid hz1; have Hz2 := Lib.hid hz2
      clear hi0 hz0 hz1 hz2
      by_cases h0 : i = 0
      · have hle : (i : Int) ≤ 0 := by omega
        have Hstep := Lib.hid (show Lib.join (Join.texts (l.take (i + 1))) sep.data.toList = Lib.join (Join.texts (l.take i)) sep.data.toList ++ l[i].data.toList from by subst h0; exact Join.step_first l sep.data.toList hlt)
        have H0 := Lib.hid h0; clear h0
        generalize hX : Lib.join (Join.texts (l.take i)) sep.data.toList = X at *
        generalize hY : Lib.join (Join.texts (l.take (i + 1))) sep.data.toList = Y at *
        have HY := Lib.hid hY
        clear hX hY
        generalize hx : l[i] = x at *
        clear hx
        have hlen := congrArg List.length Hstep.out
        simp only [List.length_append, Array.length_toList, ByteArray.size_data] at hlen
        have hc1 : X.length + x.size ≤ maxLen := by unfold maxLen; omega
        have hc2 : X.length + x.size ≤ 140737488355328 := by omega
        have Hlen := Lib.hid hlen; clear hlen
        go_wp2_with (at_builtin; refine Lib.wpList_append_own_string _ rfl (.tmp 19) (.tmp 23) 31 9 rfl N 5 i0 Tryd.underlying31 Tryd.underlying9 Hi0.out Hz0.out Hz1.out Hz2.out _ _ _ rfl hown x rfl hc1 hc2 hNle ?_; intro v1 w1 hown1 hg1 _)
        go_roundw
        case rel =>
          refine ⟨i + 1, by omega, by go_num, Below.grown hb hg1 hNle (fun k hk => (hown.lt k hk).1), ?_⟩
          rw [Join.cells_append, ← Hstep.out] at hown1
          rw [HY.out, Hlen.out]; exact hown1
        case measure => simp [intOf]; omega
      · have hgt : (0 : Int) < (i : Int) := by omega
        have Hstep := Lib.hid (Join.step_next l sep.data.toList i hlt h0)
        have H0 := Lib.hid h0; clear h0
        generalize hX : Lib.join (Join.texts (l.take i)) sep.data.toList = X at *
        generalize hY : Lib.join (Join.texts (l.take (i + 1))) sep.data.toList = Y at *
        have HY := Lib.hid hY
        clear hX hY
        generalize hx : l[i] = x at *
        clear hx
        have hlen := congrArg List.length Hstep.out
        simp only [List.length_append, Array.length_toList, ByteArray.size_data] at hlen
        have hc1 : X.length + sep.size ≤ maxLen := by unfold maxLen; omega
        have hc2 : X.length + sep.size ≤ 140737488355328 := by omega
        have hc3 : X.length + sep.size + x.size ≤ maxLen := by unfold maxLen; omega
        have hc4 : X.length + sep.size + x.size ≤ 140737488355328 := by omega
        have hbN : b < N := by rw [← HN.out]; exact hbw0
        have Hlen := Lib.hid hlen; clear hlen
        go_wp2_with (first
          | (at_builtin; refine Lib.wpList_append_own_string _ rfl (.tmp 16) (.tmp 17) 31 9 rfl N 5 i0 Tryd.underlying31 Tryd.underlying9 Hi0.out Hz0.out Hz1.out Hz2.out _ _ _ rfl hown sep rfl hc1 hc2 hNle ?_; intro v1 w1 hown1 hg1 _; have hcell1 : w1.cell? ⟨b, o + i, none⟩ = some (.string x) := hg1.cell hcell (fun e => by have := (hown.lt b e.symm).1; omega); have hNle1 : N ≤ w1.heap.size := Nat.le_trans hNle hg1.size)
          | (at_builtin; refine Lib.wpList_append_own_string _ rfl (.tmp 19) (.tmp 23) 31 9 rfl N 5 i0 Tryd.underlying31 Tryd.underlying9 Hi0.out Hz0.out Hz1.out Hz2.out _ _ _ rfl hown1 x rfl hc3 hc4 hNle1 ?_; intro v2 w2 hown2 hg2 _))
        go_roundw
        case rel =>
          refine ⟨i + 1, by omega, by go_num, Below.grown (Below.grown hb hg1 hNle (fun k hk => (hown.lt k hk).1)) hg2 hNle1 (fun k hk => (hown1.lt k hk).1), ?_⟩
          rw [Join.cells_append, Join.cells_append, List.append_assoc, ← Hstep.out, Nat.add_assoc] at hown2
          rw [HY.out, Hlen.out]; exact hown2
        case measure => simp [intOf]; omega
    · obtain rfl : i = l.length := by omega
      have hcv := Join.conv_own wr N _ _ hown
      rw [List.take_of_length_le (Nat.le_refl _)] at hcv
      go_wp2
      go_ret
      exact ⟨rfl, hb⟩
end Go.Proofs.YtpgdmbolckogcaaDoor
