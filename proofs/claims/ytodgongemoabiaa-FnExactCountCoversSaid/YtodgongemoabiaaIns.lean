/-
  The library's Insert of one integer into a row of the call's own; Clone of a nil slice.
-/
import Derived.Test.YtodgongemoabiaaShelfIns
import Derived.Test.YtodgongemoabiaaBase
import Derived.Test.YtodgongemoabiaaSlice
import Derived.Test.YtodgongemoabiaaIntRow
import Derived.Test.YtodgongemoabiaaInts
import Derived.Test.YtodgongemoabiaaOwn
import Derived.Test.YtodgongemoabiaaAppend
import Derived.Test.YtodgongemoabiaaPut
namespace Go.Proofs.Ytodgongemoabiaa
open Go.RowKit

namespace Pt
/-- One element more, in a block that has room behind the others. -/
theorem ins_get (cur : Array Value) (cs : List Value) (x : Value) (i n : Nat) (hl : cs.length = n) (hi : i ≤ n) (hsz : n + 1 ≤ cur.size) (hcur : ∀ j, j < i → cur[j]? = cs[j]?) (j : Nat) (hj : j < n + 1) :
    (putAll (putAll cur (i + 1) (cs.drop i)) i [x])[j]? = (cs.take i ++ [x] ++ cs.drop i)[j]? := by
  rw [putAll_get, putAll_size, putAll_get, List.length_drop, hl]
  rcases Nat.lt_trichotomy j i with h | h | h
  · rw [if_neg (by simp; omega), if_neg (by omega), hcur j h, List.append_assoc, List.getElem?_append_left (by rw [List.length_take]; omega), List.getElem?_take, if_pos h]
  · subst h
    rw [if_pos (by simp; omega), Nat.sub_self, List.append_assoc, List.getElem?_append_right (by rw [List.length_take]; omega), List.length_take, hl, Nat.min_eq_left hi, Nat.sub_self]
    rfl
  · rw [if_neg (by simp; omega), if_pos (by omega), List.getElem?_append_right (by rw [List.length_append, List.length_take]; simp; omega), List.length_append, List.length_take, hl, Nat.min_eq_left hi]
    congr 1
theorem ins_get' (cur : Array Value) (cs : List Value) (x : Value) (i n : Nat) (hl : cs.length = n) (hi : i ≤ n) (hsz : n + 1 ≤ cur.size) (hcur : ∀ j, j < i → cur[j]? = cs[j]?) (j : Nat) (hj : j < n + 1) :
    (putAll (putAll cur i [x]) (i + 1) (cs.drop i))[j]? = (cs.take i ++ [x] ++ cs.drop i)[j]? := by
  rw [putAll_get, putAll_size, putAll_get, List.length_drop, hl]
  rcases Nat.lt_trichotomy j i with h | h | h
  · rw [if_neg (by omega), if_neg (by simp; omega), hcur j h, List.append_assoc, List.getElem?_append_left (by rw [List.length_take]; omega), List.getElem?_take, if_pos h]
  · subst h
    rw [if_neg (by omega), if_pos (by simp; omega), Nat.sub_self, List.append_assoc, List.getElem?_append_right (by rw [List.length_take]; omega), List.length_take, hl, Nat.min_eq_left hi, Nat.sub_self]
    rfl
  · rw [if_pos (by omega), List.getElem?_append_right (by rw [List.length_append, List.length_take]; simp; omega), List.length_append, List.length_take, hl, Nat.min_eq_left hi]
    congr 1
theorem take_of_get {cur : Array Value} {T : List Value} {m : Nat} (hT : T.length = m) (hsz : m ≤ cur.size) (h : ∀ j, j < m → cur[j]? = T[j]?) : cur.toList.take m = T := by
  apply List.ext_getElem?
  intro j
  rw [List.getElem?_take]
  by_cases hj : j < m
  · rw [if_pos hj, ← h j hj]; simp
  · rw [if_neg hj, List.getElem?_eq_none (by omega)]
theorem os_set {g : Nat} : ∀ (vs : List Value) (w : World) (o : Nat), (w.setCells g o vs).os = w.os
  | [], _, _ => rfl
  | v :: r, w, o => by rw [World.setCells, os_set r]; rfl
theorem tape_set {g : Nat} : ∀ (vs : List Value) (w : World) (o : Nat), (w.setCells g o vs).tape = w.tape
  | [], _, _ => rfl
  | v :: r, w, o => by rw [World.setCells, tape_set r]; rfl
theorem output_set {g : Nat} : ∀ (vs : List Value) (w : World) (o : Nat), (w.setCells g o vs).output = w.output
  | [], _, _ => rfl
  | v :: r, w, o => by rw [World.setCells, output_set r]; rfl
theorem grown_set {a w : World} {g : Nat} (vs : List Value) (o : Nat) (h : a.grownBy w (some g)) : a.grownBy (w.setCells g o vs) (some g) :=
  ⟨by rw [os_set]; exact h.os, by rw [tape_set]; exact h.tape, by rw [output_set]; exact h.output, by rw [size]; exact h.size, fun k hk hne => by
    rw [far (fun e => hne (by rw [e]))]; exact h.block k hk hne⟩
theorem new_set {a w : World} {g : Nat} {row : Option Nat} (vs : List Value) (o : Nat) (hg : a.heap.size ≤ g) (h : a.grownBy w row) : a.grownBy (w.setCells g o vs) row :=
  ⟨by rw [os_set]; exact h.os, by rw [tape_set]; exact h.tape, by rw [output_set]; exact h.output, by rw [size]; exact h.size, fun k hk hne => by
    rw [far (by omega)]; exact h.block k hk hne⟩
end Pt

def Inserted (N g n : Nat) (l : List Int) (i : Nat) (x : Int) (w : World) (e : Ending) (w' : World) : Prop :=
  ∃ v, e = .returned v ∧ w'.ownsRow N 3 1 v (n + 1) (intCells (l.take i ++ [x] ++ l.drop i)) ∧ w.grownBy w' (some g)
theorem ins_cells (l : List Int) (i : Nat) (x : Int) : (intCells l).take i ++ [.int .i64 x] ++ (intCells l).drop i = intCells (l.take i ++ [x] ++ l.drop i) := by simp [intCells]
set_option maxRecDepth 10000 in
theorem lib_Insert (N g cap n i vb vc : Nat) (l : List Int) (x : Int) (w : World) (hl : l.length = n) (hown : w.ownsRow N 3 1 (.slice (some ⟨g, 0, none⟩) n cap) n (intCells l)) (hi : i ≤ n) (hn : n ≤ 1000) (hN : N ≤ w.heap.size)
    (hv : Blk w vb 3 #[.int .i64 x]) (hvg : vb ≠ g) :
    Calls Try.prog 186 #[.slice (some ⟨g, 0, none⟩) n cap, .int .i64 (i : Int), .slice (some ⟨vb, 0, none⟩) 1 vc] w fun e w' => Inserted N g n l i x w e w' := by
  rcases hown.2 with ⟨e, _⟩ | ⟨g', cap', cur, e, hbase, hb, h1, h2, h3, h4⟩
  · cases e
  · cases e
    rw [Nat.mul_one] at h3 h4
    have hcl : (intCells l).length = n := by rw [intCells_len]; exact hl
    have hk : Blk w g 3 cur := hb
    have hcur : ∀ j, j < n → cur[j]? = (intCells l)[j]? := fun j hj => by
      rw [← h4, List.getElem?_take, if_pos hj]; simp
    have hcs : ∀ j v, (intCells l)[j]? = some v → w.cell? ⟨g, 0 + j, none⟩ = some v := fun j v hv => by
      have := (List.getElem?_eq_some_iff.1 hv).1
      rw [Nat.zero_add, hk.cell, hcur j (by omega)]; exact hv
    have hvs : ∀ j v, ([.int .i64 x] : List Value)[j]? = some v → w.cell? ⟨vb, 0 + j, none⟩ = some v := fun j v hj => by
      rw [Nat.zero_add, hv.cell]; simpa using hj
    have hone := intCells_one l
    have hone1 : ∀ v ∈ ([.int .i64 x] : List Value), v.oneCell' = true := fun v hv => by rw [List.mem_singleton.1 hv]; rfl
    have hm63 : maxLen ≤ 9223372036854775807 := by unfold maxLen; omega
    have hTl : (l.take i ++ [x] ++ l.drop i).length = n + 1 := by simp; omega
    have hTc : (intCells (l.take i ++ [x] ++ l.drop i)).length = (n + 1) * 1 := by rw [intCells_len, hTl, Nat.mul_one]
    have hsp : n + 1 ≤ cap → ∀ j, j < n + 1 → (w.cell? ⟨g, 0 + j, none⟩).isSome = true := fun hc j hj => by
      rw [Nat.zero_add, hk.cell, Array.getElem?_eq_getElem (by omega)]; rfl
    by_cases hroom : n + 1 ≤ cap
    · by_cases hin : i < n
      · refine (Any2.slices_Insert_int_shift Try.laysIns g 0 n cap i vb 0 1 vc (intCells l) [.int .i64 x] w hin (by omega) hroom (by omega) hvg hcl rfl hcs (hsp hroom) (fun j _ => hk.frozen _) hvs hone hone1 3 3 1 cur.size (by unfold Blk at hv; simp [World.shape?, hv]) (by unfold Blk at hk; simp [World.shape?, hk]) (by omega) (hv.frozen 0) (hv.frozen 1)).mono ?_
        rintro e w' ⟨rfl, rfl⟩
        have hb2 := Pt.blk [.int .i64 x] i (Pt.blk ((intCells l).drop i) (i + 1) hk.drew)
        rw [Nat.zero_add, Nat.zero_add]
        refine ⟨_, rfl, ⟨hTc, Or.inr ⟨g, cap, _, rfl, hbase, hb2, hroom, h2, ?_, ?_⟩⟩, ?_⟩
        · rw [Pt.putAll_size, Pt.putAll_size, h3, Nat.mul_one]
        · rw [Nat.mul_one, ← ins_cells]
          exact Pt.take_of_get (by rw [ins_cells, hTc, Nat.mul_one]) (by rw [Pt.putAll_size, Pt.putAll_size]; omega) (Pt.ins_get cur (intCells l) _ i n hcl hi (by omega) (fun j hj => hcur j (by omega)))
        · exact Pt.grown_set _ _ (Pt.grown_set _ _ ⟨rfl, rfl, rfl, Nat.le_refl _, fun _ _ _ => rfl⟩)
      · obtain rfl : i = n := by omega
        refine (Any2.slices_Insert_int_end_room Try.laysIns g 0 i cap vb 0 1 vc [.int .i64 x] w (by omega) hroom (by omega) rfl (fun j hj => ?_) (fun j _ => hk.frozen _) hvs hone1).mono ?_
        · rw [Nat.zero_add, hk.cell, Array.getElem?_eq_getElem (by omega)]; rfl
        rintro e w' ⟨rfl, rfl⟩
        have hb2 := Pt.blk [.int .i64 x] i hk
        have hd : (intCells l).drop i = [] := List.drop_eq_nil_of_le (by omega)
        have hg2 := Pt.ins_get cur (intCells l) (.int .i64 x) i i hcl hi (by omega) (fun j hj => hcur j (by omega))
        rw [hd] at hg2
        rw [Nat.zero_add]
        refine ⟨_, rfl, ⟨hTc, Or.inr ⟨g, cap, _, rfl, hbase, hb2, hroom, h2, ?_, ?_⟩⟩, ?_⟩
        · rw [Pt.putAll_size, h3, Nat.mul_one]
        · rw [Nat.mul_one, ← ins_cells, hd]
          exact Pt.take_of_get (by have := hTc; rw [← ins_cells, hd, Nat.mul_one] at this; exact this) (by rw [Pt.putAll_size]; omega) hg2
        · exact Pt.grown_set _ _ (World.grownBy.refl _ _)
    · have hge := grownCap_ge w (n + 1) cap 3
      have hle := grownCap_le_maxLen w (n + 1) cap 3 (by unfold maxLen; omega)
      by_cases hin : i < n
      · refine (Any2.slices_Insert_int_grow Try.laysIns g 0 n cap i vb 0 1 vc (intCells l) [.int .i64 x] w hin (by omega) h1 (by omega) (by omega) hcl rfl hcs hvs hone hone1).mono ?_
        rintro e w' ⟨rfl, rfl⟩
        rw [show Try.laysIns_ren.t 3 = 3 from rfl]
        have hb0 := Blk.new w 3 (((intCells l).take i).toArray ++ Builtin.zeroCells (Value.int .i64 0).cells (n + 1 - i) ++ Builtin.zeroCells (Value.int .i64 0).cells (grownCap w (n + 1) cap 3 - (n + 1)))
        have hz1 : (Value.int IntKind.i64 0).cells.size = 1 := rfl
        have hsz : (((intCells l).take i).toArray ++ Builtin.zeroCells (Value.int .i64 0).cells (n + 1 - i) ++ Builtin.zeroCells (Value.int .i64 0).cells (grownCap w (n + 1) cap 3 - (n + 1))).size = grownCap w (n + 1) cap 3 := by
          rw [Array.size_append, Array.size_append, size_zeroCells, size_zeroCells, hz1, List.size_toArray, List.length_take]; omega
        have hcur0 : ∀ j, j < i → (((intCells l).take i).toArray ++ Builtin.zeroCells (Value.int .i64 0).cells (n + 1 - i) ++ Builtin.zeroCells (Value.int .i64 0).cells (grownCap w (n + 1) cap 3 - (n + 1)))[j]? = (intCells l)[j]? := fun j hj => by
          have hs1 : ((intCells l).take i).toArray.size = i := by rw [List.size_toArray, List.length_take]; omega
          rw [Array.getElem?_append_left (by rw [Array.size_append, hs1]; omega), Array.getElem?_append_left (by rw [hs1]; exact hj), List.getElem?_toArray, List.getElem?_take, if_pos hj]
        generalize (((intCells l).take i).toArray ++ Builtin.zeroCells (Value.int .i64 0).cells (n + 1 - i) ++ Builtin.zeroCells (Value.int .i64 0).cells (grownCap w (n + 1) cap 3 - (n + 1))) = A0 at *
        have hb2 := Pt.blk ((intCells l).drop i) (i + 1) (Pt.blk [.int .i64 x] i hb0.drew).drew
        refine ⟨_, rfl, ⟨hTc, Or.inr ⟨w.heap.size, _, _, rfl, hN, hb2, hge, hle, ?_, ?_⟩⟩, ?_⟩
        · rw [Pt.putAll_size, Pt.putAll_size, hsz, Nat.mul_one]
        · rw [Nat.mul_one, ← ins_cells]
          exact Pt.take_of_get (by rw [ins_cells, hTc, Nat.mul_one]) (by rw [Pt.putAll_size, Pt.putAll_size, hsz]; exact hge) (Pt.ins_get' A0 (intCells l) _ i n hcl hi (by omega) hcur0)
        · refine Pt.new_set _ _ (Nat.le_refl _) ?_
          have h0 : w.grownBy ((w.alloc (.cells A0 3)).drew.setCells w.heap.size i [.int .i64 x]) (some g) := Pt.new_set _ _ (Nat.le_refl _) (only_of_below (Below.drew ((Below.refl w.heap.size w).alloc (Nat.le_refl _) _)) _)
          exact ⟨h0.os, h0.tape, h0.output, h0.size, h0.block⟩
      · obtain rfl : i = n := by omega
        refine (Any2.slices_Insert_int_end_grow Try.laysIns (some ⟨g, 0, none⟩) i cap vb 0 1 vc (intCells l) [.int .i64 x] w (by omega) h1 (by omega) (by omega) hcl rfl (fun e => by cases e) (fun a ha j v hj => by cases ha; rw [show (⟨g, 0, none⟩ : Addr).add j = ⟨g, 0 + j, none⟩ from by unfold Addr.add; split <;> simp_all]; exact hcs j v hj) hvs hone1).mono ?_
        rintro e w' ⟨rfl, rfl⟩
        have hd : (intCells l).drop i = [] := List.drop_eq_nil_of_le (by omega)
        have ht : (intCells l).take i = intCells l := List.take_of_length_le (by omega)
        have hz1 : (Value.int IntKind.i64 0).cells.size = 1 := rfl
        refine ⟨_, rfl, ⟨hTc, Or.inr ⟨w.heap.size, _, _, rfl, hN, (Blk.new w.drew 3 _), hge, hle, ?_, ?_⟩⟩, ?_⟩
        · rw [Array.size_append, size_zeroCells, hz1, List.size_toArray, List.length_append, hcl, Nat.mul_one]
          show i + 1 + _ = _
          have : i + 1 ≤ grownCap w (i + 1) cap (Try.laysIns_ren.t 3) := hge
          omega
        · rw [Nat.mul_one, ← ins_cells, hd, ht, List.append_nil]
          refine Pt.take_of_get (by rw [List.length_append, hcl]; rfl) (by rw [Array.size_append, List.size_toArray, List.length_append, hcl]; simp) (fun j hj => ?_)
          rw [Array.getElem?_append_left (by rw [List.size_toArray, List.length_append, hcl]; exact hj), List.getElem?_toArray]
        · exact only_of_below ((Below.drew (Below.refl w.heap.size w)).alloc (Nat.le_refl _) _) _
/-- Into a nil slice. -/
theorem lib_InsertNil (N vb vc : Nat) (x z : Int) (hz : z = 0) (w : World) (hN : N ≤ w.heap.size) (hv : Blk w vb 3 #[.int .i64 x]) :
    Calls Try.prog 186 #[.slice none 0 0, .int .i64 z, .slice (some ⟨vb, 0, none⟩) 1 vc] w fun e w' => ∃ v, e = .returned v ∧ w'.ownsRow N 3 1 v 1 (intCells [x]) ∧ Below w.heap.size w w' := by
  subst hz
  have hvs : ∀ j v, ([.int .i64 x] : List Value)[j]? = some v → w.cell? ⟨vb, 0 + j, none⟩ = some v := fun j v hj => by
    rw [Nat.zero_add, hv.cell]; simpa using hj
  have hone1 : ∀ v ∈ ([.int .i64 x] : List Value), v.oneCell' = true := fun v hv => by rw [List.mem_singleton.1 hv]; rfl
  have hge := grownCap_ge w (0 + 1) 0 3
  have hle := grownCap_le_maxLen w (0 + 1) 0 3 (by unfold maxLen; omega)
  refine (Any2.slices_Insert_int_end_grow Try.laysIns none 0 0 vb 0 1 vc [] [.int .i64 x] w (by omega) (Nat.le_refl _) (by omega) (by omega) rfl rfl (fun _ => rfl) (fun a ha => by cases ha) hvs hone1).mono ?_
  rintro e w' ⟨rfl, rfl⟩
  have hz1 : (Value.int IntKind.i64 0).cells.size = 1 := rfl
  refine ⟨_, rfl, ⟨rfl, Or.inr ⟨w.heap.size, _, _, rfl, hN, (Blk.new w.drew 3 _), hge, hle, ?_, ?_⟩⟩, (Below.drew (Below.refl w.heap.size w)).alloc (Nat.le_refl _) _⟩
  · rw [Array.size_append, size_zeroCells, hz1]
    show 1 + _ = _
    have : 0 + 1 ≤ grownCap w (0 + 1) 0 (Try.laysIns_ren.t 3) := hge
    omega
  · refine Pt.take_of_get rfl (by rw [Array.size_append]; simp) (fun j hj => ?_)
    rw [Array.getElem?_append_left (by simpa using hj)]; simp [intCells]
set_option maxRecDepth 10000 in
set_option maxHeartbeats 1000000 in
theorem lib_CloneNil (n : Nat) (hn : n = 0) (w : World) :
    Calls Try.prog 187 #[.slice none n 0] w fun e w' => e = .returned (.slice none 0 0) ∧ Below w.heap.size w w' := by
  subst hn
  have heq : ∀ W, (binOp .eql 42 (.slice none 0 0) (.slice none 0 0)).run Try.prog W = .ok (.bool true) W := fun W => Lib.run_eql_slice_nil W 42 3 _ _ _ _ _ Try.underlying42
  go_enter Try.func187, Try.ntmps187
  go_wp2
  go_ret
  exact ⟨rfl, Below.refl _ _⟩
end Go.Proofs.Ytodgongemoabiaa
