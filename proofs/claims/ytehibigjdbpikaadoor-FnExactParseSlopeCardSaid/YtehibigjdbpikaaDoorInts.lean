/-
  The walks of the laws' helpers over slices of integers.
-/
import Derived.Test.YtehibigjdbpikaaDoorBase
import Derived.Test.YtehibigjdbpikaaDoorSlice
import Derived.Test.YtehibigjdbpikaaDoorIntRow
import Derived.Deep.QuietTactic
import Derived.BigQuiet
namespace Go.Proofs.YtehibigjdbpikaaDoor
open Go.RowKit

theorem info_int : (Tryd.prog.info? 3).map (fun i => (i.zero, i.size, i.bytes)) = some (some (.int .i64 0), 1, 8) := by kernel_rfl


set_option maxRecDepth 10000 in
set_option maxHeartbeats 400000 in
theorem eqIntS (a a' : Option Addr) (c c' : Nat) (l : List Int) (w : World) (ha : RowAt w a (intCells l)) (ha' : RowAt w a' (intCells l)) (hl : l.length ≤ 9223372036854775807) :
    Calls Tryd.prog 30 #[.slice a l.length c, .slice a' l.length c'] w fun e w' => e = .returned (.bool true) ∧ Below w.heap.size w w' := by
  go_enter Tryd.func30, Tryd.ntmps30
  go_wp2
  go_loopw [4, 5] (fun rv iv wr => rv = .bool false ∧ ∃ i : Nat, i ≤ l.length ∧ iv = .int .i64 i ∧ Below w.heap.size w wr) (fun _ iv _ => l.length - (intOf iv).toNat)
  case atStart => exact ⟨rfl, 0, by omega, rfl, Below.refl _ _⟩
  case round =>
    obtain ⟨rfl, i, hi, rfl, hb⟩ := hrel
    by_cases hlt : i < l.length
    · obtain ⟨b, o, rfl, hbw, hcell⟩ := intCells_at (ha.below hb) hlt
      obtain ⟨b', o', rfl, hbw', hcell'⟩ := intCells_at (ha'.below hb) hlt
      generalize l[i] = x at hcell hcell'
      have h0 : (0 : Int) ≤ (i : Int) := by omega
      have h1 : (i : Int) < (l.length : Int) := by omega
      go_wp2
      go_quiet (fail)
      all_goals go_wp2
      all_goals
        go_roundw
        case rel => exact ⟨rfl, i + 1, by omega, by go_num, below_drewN hb _⟩
        case measure => simp [intOf]; omega
    · obtain rfl : i = l.length := by omega
      go_wp2
      go_ret
      exact ⟨rfl, hb⟩

def marksI (k n : Nat) : List Int := (List.range n).map fun j => ((k + j : Nat) : Int)
theorem marksI_len (k n : Nat) : (marksI k n).length = n := by simp [marksI]
theorem marksI_at {k n i : Nat} (h : i < (marksI k n).length) : (marksI k n)[i] = ((k + i : Nat) : Int) := by simp [marksI]
theorem put_step {all all' : Array Value} {o i n : Nat} {f : Nat → Value} (hs : all'.size = all.size) (hn : o + n ≤ all.size) (hi : i < n) (h : ∀ j, j < i → all'[o + j]? = some (f j)) :
    (all'.setIfInBounds (o + i) (f i)).size = all.size ∧ ∀ j, j < i + 1 → (all'.setIfInBounds (o + i) (f i))[o + j]? = some (f j) := by
  refine ⟨by simpa using hs, fun j hj => ?_⟩
  rw [Array.getElem?_setIfInBounds]
  by_cases e : j = i
  · subst e; simp; omega
  · rw [if_neg (by omega)]; exact h j (by omega)

set_option maxRecDepth 10000 in
set_option maxHeartbeats 400000 in
theorem markIntS_at (g o c k n : Nat) (all : Array Value) (w : World) (hk : Blk w g 3 all) (hall : ∀ i, i < n → ∃ x, all[o + i]? = some (.int .i64 x)) (h1 : k ≤ 1000000000) (hn : n ≤ 1000000000) :
    Calls Tryd.prog 31 #[.slice (some ⟨g, o, none⟩) n c, .int .i64 k] w fun e w' => e = .returned (.int .i64 (k + n : Nat)) ∧ (∃ all', Blk w' g 3 all' ∧ all'.size = all.size ∧ ∀ j, j < n → all'[o + j]? = some (.int .i64 (k + j : Nat))) ∧ w.grownBy w' (some g) := by
  have Hk := Lib.hid hk
  have hglt := hk.lt
  clear hk
  go_enter Tryd.func31, Tryd.ntmps31
  go_wp2
  go_loopw [1, 5] (fun kv iv wr => ∃ i : Nat, i ≤ n ∧ iv = .int .i64 i ∧ kv = .int .i64 (k + i : Nat) ∧ (∃ all', Hid (Blk wr g 3 all' ∧ all'.size = all.size ∧ ∀ j, j < i → all'[o + j]? = some (.int .i64 (k + j : Nat)))) ∧ w.grownBy wr (some g)) (fun _ iv _ => n - (intOf iv).toNat)
  case atStart => exact ⟨0, by omega, rfl, rfl, ⟨all, Lib.hid ⟨Hk.out, rfl, fun j hj => by omega⟩⟩, World.grownBy.refl _ _⟩
  case round =>
    obtain ⟨i, hi, rfl, rfl, ⟨all', hblk⟩, hg⟩ := hrel
    by_cases hlt : i < n
    · have hsz : o + n ≤ all.size := by
        obtain ⟨x, hx⟩ := hall (n - 1) (by omega)
        have := (Array.getElem?_eq_some_iff.1 hx).1
        omega
      obtain ⟨v, hcell⟩ : ∃ v, wr.cell? ⟨g, o + i, none⟩ = some v := ⟨all'[o + i]'(by rw [hblk.out.2.1]; omega), by rw [hblk.out.1.cell]; simp⟩
      have hfz := hblk.out.1.frozen (o + i)
      go_wp2
      go_roundw
      case rel =>
        refine ⟨i + 1, by omega, by go_num, by simp; omega, ⟨_, Lib.hid ⟨hblk.out.1.put (o + i) (.int .i64 (k + i : Nat)), ?_⟩⟩, only_setCell hg (Or.inl rfl) _⟩
        exact put_step (f := fun j => .int .i64 (k + j : Nat)) hblk.out.2.1 hsz hlt hblk.out.2.2
      case measure => simp [intOf]; omega
    · obtain rfl : i = n := by omega
      go_wp2
      go_ret
      exact ⟨rfl, ⟨all', hblk.out⟩, hg⟩

set_option maxRecDepth 10000 in
set_option maxHeartbeats 400000 in
theorem markIntS_none (a : Option Addr) (c k : Nat) (w : World) (h1 : k ≤ 1000000000) :
    Calls Tryd.prog 31 #[.slice a 0 c, .int .i64 k] w fun e w' => e = .returned (.int .i64 k) ∧ w' = w := by
  go_enter Tryd.func31, Tryd.ntmps31
  go_wp2
  go_loopw [1, 5] (fun kv iv wr => kv = .int .i64 k ∧ iv = .int .i64 0 ∧ wr = w) (fun _ _ _ => 0)
  case atStart => exact ⟨rfl, rfl, rfl⟩
  case round =>
    obtain ⟨rfl, rfl, rfl⟩ := hrel
    go_wp2
    go_ret
    exact ⟨rfl, rfl⟩

theorem markIntS_blk (g c k : Nat) (l : List Int) (w : World) (hk : Blk w g 3 (intCells l).toArray) (h1 : k ≤ 1000000000) (hn : l.length ≤ 1000000000) :
    Calls Tryd.prog 31 #[.slice (some ⟨g, 0, none⟩) l.length c, .int .i64 k] w fun e w' => e = .returned (.int .i64 (k + l.length : Nat)) ∧ w.grownBy w' (some g) := by
  refine (markIntS_at g 0 c k l.length _ w hk (fun i hi => ⟨l[i], by rw [Nat.zero_add]; simpa using intCells_get hi⟩) h1 hn).mono ?_
  rintro e w' ⟨rfl, _, h⟩
  exact ⟨rfl, h⟩

/-- A row that can be written, marked. -/
theorem markIntS (a : Option Addr) (c k base : Nat) (l : List Int) (w : World) (hf : Fresh w base 3 a (intCells l)) (h1 : k ≤ 1000000000) (hn : l.length ≤ 1000000000) (hb : base ≤ w.heap.size) :
    Calls Tryd.prog 31 #[.slice a l.length c, .int .i64 k] w fun e w' => e = .returned (.int .i64 (k + l.length : Nat)) ∧ Fresh w' base 3 a (intCells (marksI k l.length)) ∧ Below base w w' ∧ ∃ row, w.grownBy w' row ∧ ∀ g, row = some g → base ≤ g ∧ ∃ o, a = some ⟨g, o, none⟩ := by
  rcases hf with he | ⟨g, o, all, rfl, hg, hk, hc⟩
  · obtain rfl : l = [] := by simpa [intCells] using he
    refine (markIntS_none a c k w h1).mono ?_
    rintro e w' ⟨rfl, rfl⟩
    exact ⟨rfl, Or.inl rfl, Below.refl _ _, none, World.grownBy.refl _ _, fun _ e => by cases e⟩
  · refine (markIntS_at g o c k l.length all w hk (fun i hi => ⟨l[i], hc i _ (intCells_get hi)⟩) h1 hn).mono ?_
    rintro e w' ⟨rfl, ⟨all', hk', _, hc'⟩, hgr⟩
    refine ⟨rfl, Or.inr ⟨g, o, all', rfl, hg, hk', fun i v hv => ?_⟩, ?_, some g, hgr, fun g' e => by cases e; exact ⟨hg, o, rfl⟩⟩
    · have hi : i < (marksI k l.length).length := by
        have := (List.getElem?_eq_some_iff.1 hv).1
        rwa [intCells_len] at this
      rw [intCells_get hi, marksI_at] at hv
      cases hv
      exact hc' i (by rwa [marksI_len] at hi)
    · exact ⟨hgr.os, hgr.tape, hgr.output, hgr.size, fun i hi => hgr.block i (by omega) (fun e => by cases e; omega)⟩

set_option maxRecDepth 10000 in
set_option maxHeartbeats 400000 in
theorem heldIntS (a : Option Addr) (n c k : Nat) (w : World) (ha : RowAt w a (intCells (marksI k n))) (h1 : k ≤ 1000000000) (hn : n ≤ 1000000000) :
    Calls Tryd.prog 32 #[.slice a n c, .int .i64 k] w fun e w' => e = .returned (.int .i64 (k + n : Nat)) ∧ Below w.heap.size w w' := by
  have Hl := Lib.hid (marksI_len k n)
  go_enter Tryd.func32, Tryd.ntmps32
  go_wp2
  go_loopw [1, 4, 5] (fun kv rv iv wr => rv = .int .i64 0 ∧ ∃ i : Nat, i ≤ n ∧ iv = .int .i64 i ∧ kv = .int .i64 (k + i : Nat) ∧ Below w.heap.size w wr) (fun _ _ iv _ => n - (intOf iv).toNat)
  case atStart => exact ⟨rfl, 0, by omega, rfl, rfl, Below.refl _ _⟩
  case round =>
    obtain ⟨rfl, i, hi, rfl, rfl, hb⟩ := hrel
    by_cases hlt : i < n
    · obtain ⟨b, o, rfl, hbw, hcell⟩ := intCells_at (ha.below hb) (i := i) (by rw [Hl.out]; exact hlt)
      rw [marksI_at] at hcell
      have h2 : (0 : Int) ≤ (i : Int) := by omega
      have h3 : (i : Int) < (n : Int) := by omega
      go_wp2
      go_roundw
      case rel => exact ⟨rfl, i + 1, by omega, by go_num, by simp; omega, hb⟩
      case measure => simp [intOf]; omega
    · obtain rfl : i = n := by omega
      go_wp2
      go_ret
      exact ⟨rfl, hb⟩

end Go.Proofs.YtehibigjdbpikaaDoor
