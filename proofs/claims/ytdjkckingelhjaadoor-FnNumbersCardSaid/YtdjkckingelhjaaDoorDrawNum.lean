/-
  The walks of the model's draws of numbers and of their texts.
-/
import Derived.Test.YtdjkckingelhjaaDoorBase
import Derived.Test.YtdjkckingelhjaaDoorSlice
import Derived.Test.YtdjkckingelhjaaDoorFmt
import Derived.Test.YtdjkckingelhjaaDoorDraw
namespace Go.Proofs.YtdjkckingelhjaaDoor
open Go.RowKit

/-- An integer is returned. -/
def Int64 (e : Ending) : Prop := ∃ x : Int, e = .returned (.int .i64 x) ∧ -9223372036854775808 ≤ x ∧ x ≤ 9223372036854775807

set_option maxRecDepth 100000 in
set_option maxHeartbeats 1000000 in
theorem l1Whole (g : Nat) (w : World) (hc : CurAt w g) :
    Calls Tryd.prog 25 #[.pointer (some ⟨g, 0, none⟩)] w (Drawn w g Int64) := by
  go_enter Tryd.func25, Tryd.ntmps25
  go_wp2_with fail
  refine (l1Below g 3 w hc (by omega) (by omega)).mono ?_
  rintro e w1 ⟨⟨x, rfl, hx0, hx1⟩, hc1, hg1⟩
  by_cases h0 : x = 0
  · have hx0' : (x == 0) = true := by rw [beq_iff_eq]; omega
    clear h0
    go_wp2_with fail
    refine ((l1PickInt g w1.heap.size 12 [0, 1, -1, 9, 10, 999999, 1000000, 999999999999, 1000000000000, -999999999999, 9223372036854775807, -9223372036854775808] _ (hc1.alloc _) (Blk.new _ _ _) (by have := hc1.lt; omega) (by decide) (by decide))).mono ?_
    rintro e w2 ⟨⟨v, hv, rfl⟩, hc2, hg2⟩
    have hi : Int64 (.returned v) := by
      simp only [intCells, List.mem_map] at hv
      obtain ⟨y, hy, rfl⟩ := hv
      refine ⟨y, rfl, ?_⟩
      simp only [List.mem_cons, List.mem_nil_iff, or_false] at hy
      omega
    obtain ⟨y, hy, hy0, hy1⟩ := hi
    injection hy with hy
    subst hy
    clear hv
    go_wp2
    go_ret
    exact ⟨⟨y, rfl, hy0, hy1⟩, hc2, hg1.trans ((World.grownBy_alloc _ _ _).trans hg2)⟩
  · have hx0' : (x == 0) = false := by rw [beq_eq_false_iff_ne]; omega
    by_cases h1 : x = 1
    · have hx1' : (x == 1) = true := by rw [beq_iff_eq]; omega
      clear h0 h1
      go_wp2_with fail
      refine (l1Below g 1000000 w1 hc1 (by omega) (by omega)).mono ?_
      rintro e w2 ⟨⟨y, rfl, hy0, hy1⟩, hc2, hg2⟩
      go_wp2
      go_ret
      exact ⟨⟨_, rfl, by omega, by omega⟩, hc2, hg1.trans hg2⟩
    · have hx1' : (x == 1) = false := by rw [beq_eq_false_iff_ne]; omega
      clear h0 h1
      go_wp2_with fail
      refine (l1Below g 20 w1 hc1 (by omega) (by omega)).mono ?_
      rintro e w2 ⟨⟨y, rfl, hy0, hy1⟩, hc2, hg2⟩
      go_wp2
      go_ret
      exact ⟨⟨_, rfl, by omega, by omega⟩, hc2, hg1.trans hg2⟩

/-- A text of no more than so many bytes is returned. -/
def Text (n : Nat) (e : Ending) : Prop := ∃ s : ByteArray, e = .returned (.string s) ∧ s.size ≤ n

set_option maxRecDepth 100000 in
set_option maxHeartbeats 1000000 in
theorem drawFormatInt (a : Option Addr) (c : Nat) (l : List Int) (w : World) (ha : RowAt w a (byteCells l)) (hb : ∀ x ∈ l, 0 ≤ x ∧ x ≤ 255) (hsz : l.length ≤ 1048576) :
    Calls Tryd.prog 10 #[.slice a l.length c] w fun e w' => Int64 e ∧ Below w.heap.size w w' := by
  go_enter Tryd.func10, Tryd.ntmps10
  go_wp2_with fail
  refine (l1New a c l w ha hb hsz).mono ?_
  rintro e w1 ⟨g, rfl, hg, hc1, hb1⟩
  go_wp2_with fail
  refine (l1Whole g w1 hc1).mono ?_
  rintro e w2 ⟨⟨x, rfl, hx0, hx1⟩, hc2, hg2⟩
  go_wp2
  go_ret
  exact ⟨⟨x, rfl, hx0, hx1⟩, below_of_only hb1 hg2 hg⟩

set_option maxRecDepth 100000 in
set_option maxHeartbeats 1000000 in
theorem drawParseNumber (a : Option Addr) (c : Nat) (l : List Int) (w : World) (ha : RowAt w a (byteCells l)) (hb : ∀ x ∈ l, 0 ≤ x ∧ x ≤ 255) (hsz : l.length ≤ 1048576) :
    Calls Tryd.prog 14 #[.slice a l.length c] w fun e w' => Text 100 e ∧ Below w.heap.size w w' := by
  go_enter Tryd.func14, Tryd.ntmps14
  go_wp2_with fail
  refine (l1New a c l w ha hb hsz).mono ?_
  rintro e w1 ⟨g, rfl, hg, hc1, hb1⟩
  go_wp2_with fail
  refine (l1Once g 2 w1 hc1 (by omega) (by omega)).mono ?_
  rintro e w2 ⟨⟨b, rfl⟩, hc2, hg2⟩
  have hb2 := below_of_only hb1 hg2 hg
  cases b with
  | true =>
    go_wp2_with fail
    refine (l1Whole g w2 hc2).mono ?_
    rintro e w3 ⟨⟨x, rfl, hx0, hx1⟩, hc3, hg3⟩
    have hb3 := below_of_only hb2 hg3 hg
    go_wp2_with fail
    refine (spec_FormatInt x w3 hx0 hx1).mono ?_
    rintro e w4 ⟨rfl, hb4⟩
    go_wp2
    go_ret
    exact ⟨⟨_, rfl, Fmt.itoa_size hx0 hx1⟩, hb3.trans (hb4.mono hb3.size)⟩
  | false =>
    go_wp2_with fail
    refine (l1Pick g w2.heap.size 12 [⟨#[]⟩, ⟨#[48, 48]⟩, ⟨#[48, 49]⟩, ⟨#[45, 49]⟩, ⟨#[43, 49]⟩, ⟨#[120]⟩, ⟨#[57, 57, 57, 57, 57, 57]⟩, ⟨#[49, 48, 48, 48, 48, 48, 48]⟩, ⟨#[45, 48]⟩, ⟨#[45]⟩, ⟨#[32, 49]⟩, ⟨#[49, 32]⟩] _ (hc2.alloc _) (Blk.new _ _ _) (by have := hc2.lt; omega) (by decide) (by decide)).mono ?_
    rintro e w3 ⟨⟨v, hv, rfl⟩, hc3, hg3⟩
    have hi : Text 100 (.returned v) := by
      simp only [textCells, List.mem_map] at hv
      obtain ⟨y, hy, rfl⟩ := hv
      refine ⟨y, rfl, ?_⟩
      have hall : ([⟨#[]⟩, ⟨#[48, 48]⟩, ⟨#[48, 49]⟩, ⟨#[45, 49]⟩, ⟨#[43, 49]⟩, ⟨#[120]⟩, ⟨#[57, 57, 57, 57, 57, 57]⟩, ⟨#[49, 48, 48, 48, 48, 48, 48]⟩, ⟨#[45, 48]⟩, ⟨#[45]⟩, ⟨#[32, 49]⟩, ⟨#[49, 32]⟩] : List ByteArray).all (fun s => decide (s.size ≤ 100)) = true := by decide +kernel
      simpa using List.all_eq_true.1 hall y hy
    obtain ⟨y, hy, hy0⟩ := hi
    injection hy with hy
    subst hy
    clear hv
    go_wp2
    go_ret
    exact ⟨⟨y, rfl, hy0⟩, below_of_only hb2 ((World.grownBy_alloc _ _ _).trans hg3) hg⟩
end Go.Proofs.YtdjkckingelhjaaDoor
