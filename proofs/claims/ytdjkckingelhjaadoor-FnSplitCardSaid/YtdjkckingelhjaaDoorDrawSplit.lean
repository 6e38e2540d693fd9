/-
  The walk of the model's draw of a text and a byte.
-/
import Derived.Test.YtdjkckingelhjaaDoorBase
import Derived.Test.YtdjkckingelhjaaDoorSlice
import Derived.Test.YtdjkckingelhjaaDoorDraw
namespace Go.Proofs.YtdjkckingelhjaaDoor
open Go.RowKit

/-- A short text and a byte are returned. -/
def TextByte (e : Ending) : Prop := ∃ (s : ByteArray) (c : UInt8), e = .returned (.tuple #[.string s, .int .u8 c.toNat]) ∧ s.size ≤ 100

set_option maxRecDepth 100000 in
set_option maxHeartbeats 1000000 in
theorem drawSplitByte (a : Option Addr) (c : Nat) (l : List Int) (w : World) (ha : RowAt w a (byteCells l)) (hb : ∀ x ∈ l, 0 ≤ x ∧ x ≤ 255) (hsz : l.length ≤ 1048576) :
    Calls Tryd.prog 17 #[.slice a l.length c] w fun e w' => TextByte e ∧ Below w.heap.size w w' := by
  go_enter Tryd.func17, Tryd.ntmps17
  go_wp2_with fail
  refine (l1New a c l w ha hb hsz).mono ?_
  rintro e w1 ⟨g, rfl, hg, hc1, hb1⟩
  go_wp2_with fail
  refine (l1Pick g w1.heap.size 6 [⟨#[]⟩, ⟨#[97]⟩, ⟨#[97, 44, 98]⟩, ⟨#[44]⟩, ⟨#[97, 44, 44, 98, 44]⟩, ⟨#[97, 10, 98, 10]⟩] _ (hc1.alloc _) (Blk.new _ _ _) (by have := hc1.lt; omega) (by decide) (by decide)).mono ?_
  rintro e w2 ⟨⟨v, hv, rfl⟩, hc2, hg2⟩
  have hi : ∃ y : ByteArray, v = .string y ∧ y.size ≤ 100 := by
    simp only [textCells, List.mem_map] at hv
    obtain ⟨y, hy, rfl⟩ := hv
    refine ⟨y, rfl, ?_⟩
    have hall : ([⟨#[]⟩, ⟨#[97]⟩, ⟨#[97, 44, 98]⟩, ⟨#[44]⟩, ⟨#[97, 44, 44, 98, 44]⟩, ⟨#[97, 10, 98, 10]⟩] : List ByteArray).all (fun s => decide (s.size ≤ 100)) = true := by decide +kernel
    simpa using List.all_eq_true.1 hall y hy
  obtain ⟨y, rfl, hy0⟩ := hi
  clear hv
  have hb2 := below_of_only hb1 ((World.grownBy_alloc _ _ _).trans hg2) hg
  go_wp2_with fail
  refine (l1PickInt g w2.heap.size 2 [44, 10] _ (hc2.alloc _) (Blk.new _ _ _) (by have := hc2.lt; omega) (by decide) (by decide)).mono ?_
  rintro e w3 ⟨⟨u, hu, rfl⟩, hc3, hg3⟩
  have hj : u = .int .i64 44 ∨ u = .int .i64 10 := by
    simp only [intCells, List.map_cons, List.map_nil, List.mem_cons, List.mem_nil_iff, or_false] at hu
    exact hu
  have hb3 := below_of_only hb2 ((World.grownBy_alloc _ _ _).trans hg3) hg
  clear hu
  rcases hj with rfl | rfl
  · go_wp2
    go_ret2
    exact ⟨⟨y, 44, rfl, hy0⟩, hb3⟩
  · go_wp2
    go_ret2
    exact ⟨⟨y, 10, rfl, hy0⟩, hb3⟩
end Go.Proofs.YtdjkckingelhjaaDoor
