/-
  Maps behind a pointer: what such a pointer leads to; the walks of Clone, mapOf, and of the questions that a map answers.
-/
import Derived.Test.YtodgongemoabiaaBase
import Derived.Test.YtodgongemoabiaaSlice
import Derived.Test.YtodgongemoabiaaInts
import Derived.Test.YtodgongemoabiaaGrid
import Derived.Test.YtodgongemoabiaaOwn
import Derived.Test.YtodgongemoabiaaAppend
import Derived.Test.YtodgongemoabiaaGridRows
import Derived.Test.YtodgongemoabiaaClass
import Derived.Test.YtodgongemoabiaaLab
import Derived.Test.YtodgongemoabiaaMap
import Derived.Test.YtodgongemoabiaaMapA
import Derived.Deep.QuietTactic
import Derived.BigQuiet
namespace Go.Proofs.Ytodgongemoabiaa
open Go.RowKit

theorem ownRow_cell {w : World} {lo g cap n : Nat} {f : Nat → Nat} (h : w.ownsRow lo 3 1 (.slice (some ⟨g, 0, none⟩) n cap) n (intCells (Cls.row f n))) {k : Nat} (hk : k < n) : w.cell? ⟨g, k, none⟩ = some (.int .i64 ((f k : Nat) : Int)) := by
  have := own_cell h hk (Cls.row_len f n)
  rw [this]
  have e := Cls.row_get (c := f) hk
  rw [List.getElem?_eq_getElem (by rw [Cls.row_len]; exact hk)] at e
  rw [Option.some.inj e]
theorem ownRow_put {w : World} {lo g cap n : Nat} {f : Nat → Nat} (h : w.ownsRow lo 3 1 (.slice (some ⟨g, 0, none⟩) n cap) n (intCells (Cls.row f n))) {k : Nat} (b : Nat) (hk : k < n) :
    (w.setCell ⟨g, k, none⟩ (.int .i64 ((b : Nat) : Int))).ownsRow lo 3 1 (.slice (some ⟨g, 0, none⟩) n cap) n (intCells (Cls.row (Mp.upd f k b) n)) := by
  have := (h.stored k (.int .i64 ((b : Nat) : Int))).1
  rw [show (intCells (Cls.row f n)).set k (.int .i64 ((b : Nat) : Int)) = intCells ((Cls.row f n).set k ((b : Nat) : Int)) from by simp [intCells, List.map_set], Cls.row_link hk] at this
  exact this
theorem row_congr {f f' : Nat → Nat} {n : Nat} (h : ∀ k, k < n → f k = f' k) : Cls.row f n = Cls.row f' n := by
  unfold Cls.row
  exact List.map_congr_left fun k hk => by rw [h k (List.mem_range.1 hk)]
theorem MapAt.row {w : World} {lo g cap n : Nat} {f : Nat → Nat} (h : w.ownsRow lo 3 1 (.slice (some ⟨g, 0, none⟩) n cap) n (intCells (Cls.row f n))) : RowAt w (some ⟨g, 0, none⟩) (intCells (Cls.row f n)) := by
  obtain ⟨a, c, e, hr⟩ := own_row h (by rw [intCells_len, Cls.row_len])
  cases e; exact hr
theorem own_grown {w w' : World} {base n g : Nat} {e : TypeId} {v : Value} {xs : List Value} (h : w.ownsRow base e 1 v n xs) (hg : w.grownBy w' (some g)) (hne : ∀ k, v.ownBlock = some k → k ≠ g) : w'.ownsRow base e 1 v n xs := by
  obtain ⟨hx, h0 | ⟨b, cap, cur, rfl, hb, hh, h2⟩⟩ := h
  · exact ⟨hx, Or.inl h0⟩
  · refine ⟨hx, Or.inr ⟨b, cap, cur, rfl, hb, ?_, h2⟩⟩
    have hlt : b < w.heap.size := by
      rcases Nat.lt_or_ge b w.heap.size with hl | hl
      · exact hl
      · rw [Array.getElem?_eq_none hl] at hh; cases hh
    rw [hg.block b hlt (fun e => hne b rfl (Option.some.inj e)), hh]

set_option maxRecDepth 10000 in
set_option maxHeartbeats 1000000 in
theorem lib_Clone (a : Option Addr) (c : Nat) (l : List Int) (w : World) (ha : RowAt w a (intCells l)) (h0 : 0 < l.length) (hl : l.length ≤ 1000) :
    Calls Try.prog 187 #[.slice a l.length c] w fun e w' => (∃ g cap, e = .returned (.slice (some ⟨g, 0, none⟩) l.length cap) ∧ w'.ownsRow w.heap.size 3 1 (.slice (some ⟨g, 0, none⟩) l.length cap) l.length (intCells l) ∧ l.length ≤ cap ∧ cap ≤ maxLen) ∧ Below w.heap.size w w' := by
  obtain ⟨i0, hi0, hz0, hz1, hz2⟩ := info_int_parts
  obtain ⟨b, o, rfl, hbw, _⟩ := ha.at (i := 0) (by rw [intCells_len]; exact h0)
  have Hi0 := Lib.hid hi0; have Hz0 := Lib.hid hz0; have Hz1 := Lib.hid hz1; have Hz2 := Lib.hid hz2
  have hown : (w.alloc (.cells #[] 3)).ownsRow w.heap.size 3 1 (.slice (some ⟨w.heap.size, 0, none⟩) 0 0) 0 (intCells []) := own_made rfl
  have hb0 := (Below.refl w.heap.size w).alloc (Nat.le_refl _) (.cells #[] 3)
  have hr := ha.below hb0
  have h63 : 0 + l.length ≤ maxLen := by unfold maxLen; omega
  have hby : (0 + l.length) * 8 ≤ 140737488355328 := by omega
  have hbs : w.heap.size ≤ (w.alloc (.cells #[] 3)).heap.size := by simp
  have Hown := Lib.hid hown; have Hb0 := Lib.hid hb0; have Hr := Lib.hid hr
  have heq : ∀ W, (binOp .eql 42 (.slice (some ⟨b, o, none⟩) l.length c) (.slice none 0 0)).run Try.prog W = .ok (.bool false) W := fun W => Lib.run_eql_slice_nil W 42 3 _ _ _ _ _ Try.underlying42
  clear hown hb0 hr ha hi0 hz0 hz1 hz2
  go_enter Try.func187, Try.ntmps187
  go_wp2_with (at_builtin; refine append_row rfl (.tmp 5) (.tmp 6) 42 rfl w.heap.size 3 i0 _ 8 Try.underlying42 Hi0.out Hz0.out Hz1.out Hz2.out (by rfl) _ _ _ rfl Hown.out _ _ _ _ rfl Hr.out (by rw [intCells_len]) (intCells_one l) h63 hby hbs ?_; intro v1 w1 hown1 hg1)
  rw [Nat.zero_add] at hown1
  obtain ⟨g, cap, rfl, hc1, hc2⟩ := own_form hown1 h0
  have Hown1 := Lib.hid hown1
  have Hb := Lib.hid (Hb0.out.grown hg1 (by simp) (fun k hk => (Hown.out.lt k hk).1))
  clear hown1 hg1
  go_wp2
  go_ret
  exact ⟨⟨g, cap, rfl, Hown1.out, hc1, hc2⟩, Hb.out⟩


end Go.Proofs.Ytodgongemoabiaa
