/-
  The walks of the laws' marks on slices of texts.
-/
import Derived.Test.YtdjkckingelhjaaDoorBase
import Derived.Test.YtdjkckingelhjaaDoorSlice
import Derived.Test.YtdjkckingelhjaaDoorStrs
import Derived.Test.YtdjkckingelhjaaDoorFmt
import Derived.Deep.RegionHeld3
namespace Go.Proofs.YtdjkckingelhjaaDoor
open Go.RowKit

def mark (k : Nat) : ByteArray := ⟨(109 :: Lib.decDigits k).toArray⟩

set_option maxRecDepth 10000 in
set_option maxHeartbeats 400000 in
theorem markText (k : Nat) (w : World) (h0 : 1 ≤ k) (h1 : k ≤ 9000000000000000000) :
    Calls Tryd.prog 37 #[.int .i64 k] w fun e w' => e = .returned (.string (mark k)) ∧ Below w.heap.size w w' := by
  go_enter Tryd.func37, Tryd.ntmps37
  go_wp2
  go_loopw [0, 3] (fun mv lv wr => ∃ m : Nat, mv = .int .i64 m ∧ m ≤ 9000000000000000000 ∧ ∃ l, lv = .string ⟨l.toArray⟩ ∧ Fmt.Left k m l ∧ Below w.heap.size w wr) (fun mv _ _ => (intOf mv).natAbs)
  case atStart => exact ⟨k, rfl, by omega, [], rfl, Or.inr ⟨by omega, by simp⟩, Below.refl _ _⟩
  case round =>
    obtain ⟨m, rfl, hm1, l, rfl, hl, hb⟩ := hrel
    have hlen := Fmt.left_len hl (by omega)
    have Hl := Lib.hid hl; clear hl
    by_cases hmz : m = 0
    · have hmle : ¬ (0 : Int) < (m : Int) := by omega
      have He := Lib.hid (Fmt.left_end (show Fmt.Left k 0 l by have := Hl.out; rw [hmz] at this; exact this))
      clear hmz
      go_wp2
      go_ret
      refine ⟨?_, hb⟩
      rw [He.out]
      exact congrArg (fun s => Ending.returned (Value.string s)) (ByteArray.ext (by simp [mark]))
    · have hgt : (0 : Int) < (m : Int) := by omega
      obtain ⟨d, hd⟩ : ∃ d : Nat, m % 10 = d := ⟨_, rfl⟩
      have hd9 : d ≤ 9 := by omega
      have hr : (m : Int) % 10 = (d : Int) := by omega
      have hs := Fmt.left_step Hl.out (by omega)
      rw [show (m : Int).natAbs % 10 = d from by omega, show (m : Int).tdiv 10 = ((m / 10 : Nat) : Int) from by rw [Int.tdiv_eq_ediv_of_nonneg (by omega)]; omega] at hs
      have Hs := Lib.hid hs; clear hs
      have Hd := Lib.hid hd; clear hd
      have hcv := fun W => Fmt.one_byte W (48 + (d : Int)) (by omega) (by omega)
      go_wp2
      go_roundw
      case rel => exact ⟨m / 10, by simp, by omega, _, rfl, Hs.out, hb.alloc hb.size _⟩
      case measure => simp [intOf]; omega

/-- The first i cells are marked from k on; behind them stand the old ones. -/
def marked (k : Nat) (cs : List Value) (i : Nat) : Array Value := ((List.range i).map (fun j => Value.string (mark (k + j))) ++ cs.drop i).toArray
theorem marked_zero (k : Nat) (cs : List Value) : marked k cs 0 = cs.toArray := by simp [marked]
theorem marked_at {k : Nat} {cs : List Value} {i : Nat} : (marked k cs i)[i]? = cs[i]? := by
  unfold marked
  simp [List.getElem?_append]
theorem marked_step {k : Nat} {cs : List Value} {i : Nat} (h : i < cs.length) : (marked k cs i).setIfInBounds i (.string (mark (k + i))) = marked k cs (i + 1) := by
  unfold marked
  rw [List.range_succ, List.drop_eq_getElem_cons h]
  simp only [List.setIfInBounds_toArray, List.set_append, List.length_map, List.length_range, Nat.lt_irrefl, if_false, Nat.sub_self, List.set_cons_zero, List.map_append, List.map_cons, List.map_nil, List.append_assoc]
  rfl
theorem held_keep {w0 W w1 : World} {b o : Nat} {v : Value} (h : W.cell? ⟨b, o, none⟩ = some v ∧ Below w0.heap.size w0 W) (hp : b < w0.heap.size) (hb : Below W.heap.size W w1) :
    w1.cell? ⟨b, o, none⟩ = some v ∧ Below w0.heap.size w0 w1 :=
  ⟨by rw [hb.cell (p := ⟨b, o, none⟩) (Nat.lt_of_lt_of_le hp h.2.size)]; exact h.1, h.2.trans (hb.mono h.2.size)⟩
def marks (k n : Nat) : List ByteArray := (List.range n).map fun j => mark (k + j)
theorem marked_all {k : Nat} {cs : List Value} : marked k cs cs.length = (strCells (marks k cs.length)).toArray := by
  simp [marked, strCells, marks]
theorem marks_at {k n i : Nat} (h : i < (marks k n).length) : (marks k n)[i] = mark (k + i) := by simp [marks]

set_option maxRecDepth 10000 in
set_option maxHeartbeats 400000 in
theorem markStringS (g c k : Nat) (cs : List Value) (w : World) (hk : Blk w g 9 cs.toArray) (hstr : ∀ v ∈ cs, ∃ s, v = Value.string s) (h0 : 1 ≤ k) (h1 : k ≤ 1000000000) (hn : cs.length ≤ 1000000000) :
    Calls Tryd.prog 23 #[.slice (some ⟨g, 0, none⟩) cs.length c, .int .i64 k] w fun e w' => e = .returned (.int .i64 (k + cs.length : Nat)) ∧ Blk w' g 9 (strCells (marks k cs.length)).toArray ∧ w.grownBy w' (some g) := by
  have Hk := Lib.hid hk
  have hglt := hk.lt
  clear hk
  go_enter Tryd.func23, Tryd.ntmps23
  go_wp2
  go_loopw [1, 5] (fun kv iv wr => ∃ i : Nat, i ≤ cs.length ∧ iv = .int .i64 i ∧ kv = .int .i64 (k + i : Nat) ∧ Hid (Blk wr g 9 (marked k cs i)) ∧ w.grownBy wr (some g)) (fun _ iv _ => cs.length - (intOf iv).toNat)
  case atStart => exact ⟨0, by omega, rfl, rfl, Lib.hid (by rw [marked_zero]; exact Hk.out), World.grownBy.refl _ _⟩
  case round =>
    obtain ⟨i, hi, rfl, rfl, hblk, hg⟩ := hrel
    by_cases hlt : i < cs.length
    · obtain ⟨s, hs⟩ := hstr cs[i] (List.getElem_mem hlt)
      have Hs := Lib.hid hs; clear hs
      go_wp2_with fail
      refine (markText (k + i) wr (by omega) (by omega)).mono ?_
      rintro e w1 ⟨rfl, hb1⟩
      have hglt1 : g < wr.heap.size := hblk.out.lt
      have hblk1 := hblk.out.below hb1 hglt1
      have hcell : w1.cell? ⟨g, i, none⟩ = some (.string s) := by
        rw [hblk1.cell i, marked_at, List.getElem?_eq_getElem hlt, Hs.out]
      have hfz := hblk1.frozen i
      have Hb1 := Lib.hid hblk1; clear hblk1
      go_wp2
      go_roundw
      case rel =>
        refine ⟨i + 1, by omega, by go_num, by simp; omega, Lib.hid ?_, ?_⟩
        · have h := Hb1.out.put i (.string (mark (k + i)))
          rw [marked_step hlt] at h
          exact h
        · exact only_setCell (hg.trans (only_of_below hb1 _)) (Or.inl rfl) _
      case measure => simp [intOf]; omega
    · obtain rfl : i = cs.length := by omega
      go_wp2
      go_ret
      refine ⟨rfl, ?_, hg⟩
      have h := hblk.out
      rw [marked_all] at h
      exact h

set_option maxRecDepth 10000 in
set_option maxHeartbeats 400000 in
theorem heldStringS (a : Option Addr) (n c k : Nat) (w : World) (ha : RowAt w a (strCells (marks k n))) (h0 : 1 ≤ k) (h1 : k ≤ 1000000000) (hn : n ≤ 1000000000) :
    Calls Tryd.prog 24 #[.slice a n c, .int .i64 k] w fun e w' => e = .returned (.int .i64 (k + n : Nat)) ∧ Below w.heap.size w w' := by
  have hl : (marks k n).length = n := by simp [marks]
  have Hl := Lib.hid hl; clear hl
  go_enter Tryd.func24, Tryd.ntmps24
  go_wp2
  go_loopw [1, 4, 5] (fun kv rv iv wr => rv = .int .i64 0 ∧ ∃ i : Nat, i ≤ n ∧ iv = .int .i64 i ∧ kv = .int .i64 (k + i : Nat) ∧ Below w.heap.size w wr) (fun _ _ iv _ => n - (intOf iv).toNat)
  case atStart => exact ⟨rfl, 0, by omega, rfl, rfl, Below.refl _ _⟩
  case round =>
    obtain ⟨rfl, i, hi, rfl, rfl, hb⟩ := hrel
    by_cases hlt : i < n
    · obtain ⟨b, o, rfl, hbw, hcell⟩ := strCells_at (ha.below hb) (i := i) (by rw [Hl.out]; exact hlt)
      rw [marks_at] at hcell
      have h2 : (0 : Int) ≤ (i : Int) := by omega
      have h3 : (i : Int) < (n : Int) := by omega
      have hbb : Below wr.heap.size wr wr := Below.refl _ _
      go_wp2
      go_region_held3 (fun w' => w'.cell? ⟨b, o + i, none⟩ = some (.string (mark (k + i))) ∧ Below wr.heap.size wr w') (first | assumption | exact ⟨by first | assumption | go_keep, by first | assumption | exact Below.drew (by assumption) | exact below_drewN (by assumption) _ | exact Below.drew (below_drewN (by assumption) _)⟩)
        (first | (go_at_call 37; refine (markText (k + i) _ (by omega) (by omega)).mono ?_; rintro e w1 ⟨rfl, hb1⟩; have hS := held_keep (by assumption) hbw hb1))
      go_wp2
      go_roundw
      case rel => exact ⟨rfl, i + 1, by omega, by go_num, by simp; omega, hb.trans (Below.mono (And.right ‹_ ∧ Below wr.heap.size wr _›) hb.size)⟩
      case measure => simp [intOf]; omega
    · obtain rfl : i = n := by omega
      go_wp2
      go_ret
      exact ⟨rfl, hb⟩
end Go.Proofs.YtdjkckingelhjaaDoor
