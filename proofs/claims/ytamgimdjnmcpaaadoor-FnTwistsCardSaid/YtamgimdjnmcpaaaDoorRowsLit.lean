/-
  Rows of literals that a call makes by appends.
-/
import Derived.Test.YtamgimdjnmcpaaaDoorBase
import Derived.Test.YtamgimdjnmcpaaaDoorSlice
import Derived.Test.YtamgimdjnmcpaaaDoorIntRow
import Derived.Test.YtamgimdjnmcpaaaDoorInts
import Derived.Test.YtamgimdjnmcpaaaDoorOwn
import Derived.Test.YtamgimdjnmcpaaaDoorGrid
import Derived.Test.YtamgimdjnmcpaaaDoorGridRows
import Derived.Test.YtamgimdjnmcpaaaDoorGridWalk
import Derived.Test.YtamgimdjnmcpaaaDoorGivesRows
namespace Go.Proofs.YtamgimdjnmcpaaaDoor
open Go.RowKit

/-- The rows L of the call's own, from the block N on. -/
def RowsIn (w : World) (N : Nat) (wr : World) (ov : Value) (L : List (List Int)) : Prop :=
  ∃ hs : List Hd, hs.map Hd.l = L ∧ wr.ownsRow N 24 1 ov L.length (hdCells hs) ∧ (∀ h ∈ hs, RowIn wr N wr.heap.size 3 h.a (intCells h.l)) ∧ Apts hs ∧ Below N w wr
theorem RowsIn.nil {w wr : World} {N : Nat} (hb : Below N w wr) : RowsIn w N wr (.slice none 0 0) [] :=
  ⟨[], rfl, ⟨rfl, Or.inl ⟨rfl, rfl⟩⟩, fun _ h => (by cases h), Apts.nil, hb⟩
theorem RowsIn.made {w wr : World} {N : Nat} (hb : Below N w wr) (hN : N ≤ wr.heap.size) : RowsIn w N (wr.alloc (.cells #[] 24)) (.slice (some ⟨wr.heap.size, 0, none⟩) 0 0) [] :=
  ⟨[], rfl, own_mono (made_rows rfl) hN, fun _ h => (by cases h), Apts.nil, hb.alloc hN _⟩
theorem RowsIn.size {w wr : World} {N : Nat} {ov : Value} {L : List (List Int)} (h : RowsIn w N wr ov L) (hN : N ≤ w.heap.size) : N ≤ wr.heap.size := by
  obtain ⟨hs, _, _, _, _, hb⟩ := h
  have := hb.size; omega
theorem RowsIn.more {w wr w3 : World} {N : Nat} {ov v3 : Value} {hs : List Hd} {L : List (List Int)} {x y : Int} {c : Nat} (h1 : hs.map Hd.l = L) (h2 : wr.ownsRow N 24 1 ov L.length (hdCells hs)) (h3 : ∀ h ∈ hs, RowIn wr N wr.heap.size 3 h.a (intCells h.l)) (h4 : Apts hs) (hb : Below N w wr) (hN : N ≤ wr.heap.size)
    (hc : 2 ≤ c) (hown : w3.ownsRow N 24 1 v3 (L.length + 1) (hdCells hs ++ [.slice (some ⟨wr.heap.size, 0, none⟩) 2 c]))
    (hg : ((wr.alloc (.cells #[.int .i64 x, .int .i64 y] 3)).alloc (.cells #[.slice (some ⟨wr.heap.size, 0, none⟩) 2 c] 24)).grownBy w3 ov.ownBlock) : RowsIn w N w3 v3 (L ++ [[x, y]]) := by
  subst h1
  have hn : (hs.map Hd.l).length = hs.length := List.length_map _
  rw [hn] at h2 hown
  have hb1 : Below wr.heap.size wr (wr.alloc (.cells #[.int .i64 x, .int .i64 y] 3)) := (Below.refl _ _).alloc (Nat.le_refl _) _
  have hf : Fresh (wr.alloc (.cells #[.int .i64 x, .int .i64 y] 3)) wr.heap.size 3 (some ⟨wr.heap.size, 0, none⟩) (intCells [x, y]) := Fresh.of_blk (Blk.new wr 3 #[.int .i64 x, .int .i64 y]) (Nat.le_refl _)
  have hst := grid_step (c := c) (l := [x, y]) h3 h4 (h2.alloc (.cells #[.int .i64 x, .int .i64 y] 3)) hN hf hb1 hg hc
  refine ⟨hs ++ [⟨some ⟨wr.heap.size, 0, none⟩, c, [x, y]⟩], by simp, ?_, hst.1, hst.2, ?_⟩
  · rw [← hdCells_snoc, List.length_append, hn]; exact hown
  · exact ((hb.alloc hN _).alloc (by simp; omega) _).grown hg (by simp; omega) (fun k hk => (h2.lt k hk).1)
theorem RowsIn.gives {w wr : World} {ov : Value} {L : List (List Int)} (h : RowsIn w w.heap.size wr ov L) : GivesRows w L (.returned ov) wr := by
  obtain ⟨hs, rfl, h2, h3, h4, hb⟩ := h
  obtain ⟨a, c, rfl, hc, hm, hg⟩ := grid_done h2 (List.length_map _).symm h3 h4
  exact ⟨a, c, rfl, hc, hm, hg, hb⟩
/-- One row more, made behind the world wr. -/
theorem RowsIn.push {w wr w8 w9 : World} {N c : Nat} {ov v9 : Value} {hs : List Hd} {L : List (List Int)} {a : Option Addr} {l : List Int} {o : Obj} (h1 : hs.map Hd.l = L) (h2 : wr.ownsRow N 24 1 ov L.length (hdCells hs)) (h3 : ∀ h ∈ hs, RowIn wr N wr.heap.size 3 h.a (intCells h.l)) (h4 : Apts hs) (hb : Below N w wr) (hN : N ≤ wr.heap.size)
    (hbw : Below wr.heap.size wr w8) (hf : Fresh w8 wr.heap.size 3 a (intCells l)) (hlc : l.length ≤ c)
    (hown : w9.ownsRow N 24 1 v9 (L.length + 1) (hdCells hs ++ [.slice a l.length c])) (hg : (w8.alloc o).grownBy w9 ov.ownBlock) : RowsIn w N w9 v9 (L ++ [l]) := by
  subst h1
  have hn : (hs.map Hd.l).length = hs.length := List.length_map _
  rw [hn] at h2 hown
  have ho8 := own_keep h2 hbw (fun k hk => (h2.lt k hk).2)
  have hst := grid_more (c := c) (M := wr.heap.size) (fun h hh => (h3 h hh).below hbw) h4 ho8 hN hbw.size hf hg hlc
  refine ⟨hs ++ [⟨a, c, l⟩], by simp, ?_, hst.1, hst.2, ?_⟩
  · rw [← hdCells_snoc, List.length_append, hn]; exact hown
  · exact ((hb.trans (hbw.mono hN)).alloc (Nat.le_trans hN hbw.size) _).grown hg (by have := hbw.size; simp; omega) (fun k hk => (h2.lt k hk).1)
theorem RowsIn.gridIn {w wr : World} {N : Nat} {ov : Value} {L : List (List Int)} (h : RowsIn w N wr ov L) : ∃ a c, ov = .slice a L.length c ∧ GridIn wr N wr.heap.size a L ∧ Below N w wr ∧ L.length ≤ c ∧ c ≤ maxLen := by
  obtain ⟨hs, rfl, h2, h3, h4, hb⟩ := h
  obtain ⟨a, c, rfl, k1, k2, hg⟩ := grid_done h2 (List.length_map _).symm h3 h4
  exact ⟨a, c, by rw [List.length_map], hg, hb, k1, k2⟩
end Go.Proofs.YtamgimdjnmcpaaaDoor
