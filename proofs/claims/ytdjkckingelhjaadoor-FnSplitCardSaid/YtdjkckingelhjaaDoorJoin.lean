/-
  The walk of spec.Join: the texts with the separator between them.
-/
import Derived.Test.YtdjkckingelhjaaDoorBase
import Derived.Test.YtdjkckingelhjaaDoorSlice
import Derived.Test.YtdjkckingelhjaaDoorStrs
import Derived.Lib.AppendStr
import Derived.Lib.Join
namespace Go.Proofs.YtdjkckingelhjaaDoor
open Go.RowKit

namespace Join
def texts (l : List ByteArray) : List (List UInt8) := l.map (·.data.toList)
theorem join_snoc (r : List (List UInt8)) (y sep : List UInt8) (h : r ≠ []) : Lib.join (r ++ [y]) sep = Lib.join r sep ++ (sep ++ y) := by
  cases r with
  | nil => exact absurd rfl h
  | cons x r => rw [List.cons_append, Lib.join_cons, Lib.join_cons]; simp [Lib.joinTail]
theorem join_len (r : List (List UInt8)) (sep : List UInt8) : (Lib.join r sep).length ≤ (r.map List.length).sum + r.length * sep.length := by
  cases r with
  | nil => simp [Lib.join_nil]
  | cons x r =>
    rw [Lib.join_cons]
    have : (Lib.joinTail sep r).length = (r.map List.length).sum + r.length * sep.length := by
      induction r with
      | nil => simp [Lib.joinTail]
      | cons y r ih => simp [Lib.joinTail] at ih ⊢; rw [ih, Nat.add_mul]; omega
    simp only [List.length_append, List.map_cons, List.sum_cons, List.length_cons, this, Nat.add_mul]; omega
theorem texts_sum (l : List ByteArray) : ((texts l).map List.length).sum = total l := by
  unfold texts total
  rw [List.map_map]; rfl
theorem sum_take_le (l : List Nat) (i : Nat) : (l.take i).sum ≤ l.sum := by
  conv => rhs; rw [← List.take_append_drop i l, List.sum_append]
  omega
theorem pre_len (l : List ByteArray) (sep : ByteArray) (i : Nat) (hl : l.length + total l ≤ 1048576) (hs : sep.size ≤ 1048576) : (Lib.join (texts (l.take i)) sep.data.toList).length ≤ 1100000000000 := by
  refine Nat.le_trans (join_len _ _) ?_
  rw [texts_sum]
  have h1 : total (l.take i) ≤ total l := by unfold total; rw [List.map_take]; exact sum_take_le _ _
  have h2 : (texts (l.take i)).length ≤ 1048576 := by simp [texts]; omega
  have h3 : sep.data.toList.length ≤ 1048576 := by simpa using hs
  have h4 : (texts (l.take i)).length * sep.data.toList.length ≤ 1048576 * 1048576 := Nat.mul_le_mul h2 h3
  omega
theorem texts_snoc (l : List ByteArray) (i : Nat) (h : i < l.length) : texts (l.take (i + 1)) = texts (l.take i) ++ [l[i].data.toList] := by
  unfold texts
  rw [List.take_succ_eq_append_getElem h, List.map_append]; rfl
theorem step_first (l : List ByteArray) (sep : List UInt8) (h : 0 < l.length) : Lib.join (texts (l.take (0 + 1))) sep = Lib.join (texts (l.take 0)) sep ++ l[0].data.toList := by
  rw [texts_snoc l 0 h]; simp [texts, Lib.join_nil, Lib.join_one]
theorem step_next (l : List ByteArray) (sep : List UInt8) (i : Nat) (h : i < l.length) (h0 : i ≠ 0) : Lib.join (texts (l.take (i + 1))) sep = Lib.join (texts (l.take i)) sep ++ (sep ++ l[i].data.toList) := by
  rw [texts_snoc l i h, join_snoc]
  intro e
  have := congrArg List.length e
  rw [texts, List.length_map, List.length_take, List.length_nil] at this
  omega
/-- The cells of bytes. -/
def cells (l : List UInt8) : List Value := l.map fun b => Value.int .u8 (b.toNat : Int)
theorem cells_append (l : List UInt8) (s : ByteArray) : cells l ++ Lib.strCells s = cells (l ++ s.data.toList) := by simp [cells, Lib.strCells]
theorem conv_own (w : World) (base : Nat) (v : Value) (l : List UInt8) (h : w.ownsRow base 5 1 v l.length (cells l)) :
    (convert 22 9 v).run Tryd.prog w = .ok (.string ⟨l.toArray⟩) w := by
  obtain ⟨_, ⟨rfl, h0⟩ | ⟨g, cap, cur, rfl, hb, hh, hn, hm, hc, ht⟩⟩ := h
  · obtain rfl : l = [] := List.eq_nil_of_length_eq_zero h0
    rw [run_convert_bytes_string w 22 9 5 none 0 0 Tryd.underlying22 Tryd.underlying5 Tryd.underlying9]; rfl
  · refine run_convert_bytes_back w 22 9 5 ⟨g, 0, none⟩ cap l Tryd.underlying22 Tryd.underlying5 Tryd.underlying9 (fun j hj => ?_)
    have e : (⟨g, 0, none⟩ : Addr).add j = ⟨g, j, none⟩ := by unfold Addr.add; split <;> simp_all
    rw [e, cell_of_row w g j cur _ _ hh]
    have h1 : (cells l)[j]? = some (Value.int .u8 (l[j].toNat : Int)) := by simp [cells, hj]
    rw [← ht, List.getElem?_take] at h1
    rw [if_pos (by simpa using hj)] at h1
    simpa using h1
theorem total_le (l : List ByteArray) (B : Nat) (h : ∀ x ∈ l, x.size ≤ B) : total l ≤ l.length * B := by
  induction l with
  | nil => simp [total]
  | cons x l ih =>
    have h1 := h x (List.mem_cons_self ..)
    have h2 := ih (fun y hy => h y (List.mem_cons_of_mem _ hy))
    simp only [total, List.map_cons, List.sum_cons, List.length_cons, Nat.add_mul, Nat.one_mul] at h2 ⊢
    omega
end Join

theorem info_u8 : (Tryd.prog.info? 5).map (fun i => (i.zero, i.size, i.bytes)) = some (some (.int .u8 0), 1, 1) := by kernel_rfl

end Go.Proofs.YtdjkckingelhjaaDoor
