/-
  Maps behind a pointer: what such a pointer leads to; the walks of Clone, mapOf, and of the questions that a map answers.
-/
import Derived.Test.YtpgdmbolckogcaaBase
import Derived.Test.YtpgdmbolckogcaaSlice
import Derived.Test.YtpgdmbolckogcaaInts
import Derived.Test.YtpgdmbolckogcaaGrid
import Derived.Test.YtpgdmbolckogcaaOwn
import Derived.Test.YtpgdmbolckogcaaAppend
import Derived.Test.YtpgdmbolckogcaaGridRows
import Derived.Test.YtpgdmbolckogcaaClass
import Derived.Test.YtpgdmbolckogcaaLab
import Derived.Test.YtpgdmbolckogcaaMap
import Derived.Test.YtpgdmbolckogcaaMapA
import Derived.Deep.QuietTactic
import Derived.BigQuiet
namespace Go.Proofs.Ytpgdmbolckogcaa
open Go.RowKit

/-- A row of integers of the call's own from the block lo on, behind a pointer p. -/
def MapAt (w : World) (lo p : Nat) (f : Nat → Nat) (n : Nat) : Prop :=
  ∃ g cap, Blk w p 45 #[.slice (some ⟨g, 0, none⟩) n cap] ∧ w.ownsRow lo 3 1 (.slice (some ⟨g, 0, none⟩) n cap) n (intCells (Cls.row f n)) ∧ lo ≤ p ∧ n ≤ cap ∧ cap ≤ maxLen
theorem ownRow_cell {w : World} {lo g cap n : Nat} {f : Nat → Nat} (h : w.ownsRow lo 3 1 (.slice (some ⟨g, 0, none⟩) n cap) n (intCells (Cls.row f n))) {k : Nat} (hk : k < n) : w.cell? ⟨g, k, none⟩ = some (.int .i64 ((f k : Nat) : Int)) := by
  have := own_cell h hk (Cls.row_len f n)
  rw [this]
  have e := Cls.row_get (c := f) hk
  rw [List.getElem?_eq_getElem (by rw [Cls.row_len]; exact hk)] at e
  rw [Option.some.inj e]
theorem ownRow_put {w : World} {lo g cap n : Nat} {f : Nat → Nat} (h : w.ownsRow lo 3 1 (.slice (some ⟨g, 0, none⟩) n cap) n (intCells (Cls.row f n))) {k : Nat} (b : Nat) (hk : k < n) :
    (w.setCell ⟨g, k, none⟩ (.int .i64 ((b : Nat) : Int))).ownsRow lo 3 1 (.slice (some ⟨g, 0, none⟩) n cap) n (intCells (Cls.row (Mp.upd f k b) n)) := by
  have := (h.stored k (.int .i64 ((b : Nat) : Int))).1
  rw [show (intCells (Cls.row f n)).set k (.int .i64 ((b : Nat) : Int)) = intCells ((Cls.row f n).set k ((b : Nat) : Int)) from by simp [intCells, List.map_set], Cls.row_link hk] at this
  exact this
theorem row_congr {f f' : Nat → Nat} {n : Nat} (h : ∀ k, k < n → f k = f' k) : Cls.row f n = Cls.row f' n := by
  unfold Cls.row
  exact List.map_congr_left fun k hk => by rw [h k (List.mem_range.1 hk)]
theorem MapAt.congr {w : World} {lo p n : Nat} {f f' : Nat → Nat} (h : MapAt w lo p f n) (he : ∀ k, k < n → f k = f' k) : MapAt w lo p f' n := by
  obtain ⟨g, cap, h1, h2, h3⟩ := h
  rw [row_congr he] at h2
  exact ⟨g, cap, h1, h2, h3⟩
theorem MapAt.below {w w' : World} {lo p n : Nat} {f : Nat → Nat} (h : MapAt w lo p f n) (hb : Below w.heap.size w w') : MapAt w' lo p f n := by
  obtain ⟨g, cap, h1, h2, h3⟩ := h
  exact ⟨g, cap, h1.below hb h1.lt, own_keep h2 hb (fun k hk => (h2.lt k hk).2), h3⟩
theorem MapAt.lt {w : World} {lo p n : Nat} {f : Nat → Nat} (h : MapAt w lo p f n) : lo ≤ p ∧ p < w.heap.size := by
  obtain ⟨g, cap, h1, h2, h3, _⟩ := h
  exact ⟨h3, h1.lt⟩
/-- The block of the pointer is not the row's. -/
theorem MapAt.apart {w : World} {lo p n g cap : Nat} {xs : List Value} {cs : Array Value} (h1 : Blk w p 45 cs) (h2 : w.ownsRow lo 3 1 (.slice (some ⟨g, 0, none⟩) n cap) n xs) : p ≠ g := by
  rintro rfl
  obtain ⟨cur, hc⟩ := own_type h2 p rfl
  unfold Blk at h1
  rw [h1] at hc
  injection hc with hc; injection hc with _ hc _
  exact absurd hc (by decide)
/-- What the pointer's row gives to a walk. -/
theorem MapAt.open {w : World} {lo p n : Nat} {f : Nat → Nat} (h : MapAt w lo p f n) : ∃ g cap, w.cell? ⟨p, 0, none⟩ = some (.slice (some ⟨g, 0, none⟩) n cap) ∧ w.frozen? ⟨p, 0, none⟩ = false ∧ n ≤ cap ∧ cap ≤ maxLen ∧ p ≠ g ∧ lo ≤ p ∧ p < w.heap.size ∧ lo ≤ g ∧ g < w.heap.size ∧
    Blk w p 45 #[.slice (some ⟨g, 0, none⟩) n cap] ∧ w.ownsRow lo 3 1 (.slice (some ⟨g, 0, none⟩) n cap) n (intCells (Cls.row f n)) := by
  obtain ⟨g, cap, h1, h2, h3, h4, h5⟩ := h
  have := h2.lt g rfl
  exact ⟨g, cap, h1.cell 0, h1.frozen 0, h4, h5, MapAt.apart h1 h2, h3, h1.lt, this.1, this.2, h1, h2⟩
theorem MapAt.row {w : World} {lo g cap n : Nat} {f : Nat → Nat} (h : w.ownsRow lo 3 1 (.slice (some ⟨g, 0, none⟩) n cap) n (intCells (Cls.row f n))) : RowAt w (some ⟨g, 0, none⟩) (intCells (Cls.row f n)) := by
  obtain ⟨a, c, e, hr⟩ := own_row h (by rw [intCells_len, Cls.row_len])
  cases e; exact hr
theorem own_grown {w w' : World} {base n g : Nat} {e : TypeId} {v : Value} {xs : List Value} (h : w.ownsRow base e 1 v n xs) (hg : w.grownBy w' (some g)) (hne : ∀ k, v.ownBlock = some k → k ≠ g) : w'.ownsRow base e 1 v n xs := by
  obtain ⟨hx, h0 | ⟨b, cap, cur, rfl, hb, hh, h2⟩⟩ := h
  · exact ⟨hx, Or.inl h0⟩
  · refine ⟨hx, Or.inr ⟨b, cap, cur, rfl, hb, ?_, h2⟩⟩
    have hlt : b < w.heap.size := by
      rcases Nat.lt_or_ge b w.heap.size with hl | hl
      · exact hl
      · rw [Array.getElem?_eq_none hl] at hh; cases hh
    rw [hg.block b hlt (fun e => hne b rfl (Option.some.inj e)), hh]
/-- One number of a map is replaced. -/
theorem MapAt.put {w : World} {lo p n g cap k : Nat} {f : Nat → Nat} (h1 : Blk w p 45 #[.slice (some ⟨g, 0, none⟩) n cap]) (h2 : w.ownsRow lo 3 1 (.slice (some ⟨g, 0, none⟩) n cap) n (intCells (Cls.row f n))) (h3 : lo ≤ p) (h4 : n ≤ cap) (h5 : cap ≤ maxLen) (b : Nat) (hk : k < n) :
    MapAt (w.setCell ⟨g, k, none⟩ (.int .i64 ((b : Nat) : Int))) lo p (Mp.upd f k b) n :=
  ⟨g, cap, h1.far (MapAt.apart h1 h2) _, ownRow_put h2 b hk, h3, h4, h5⟩

set_option maxRecDepth 10000 in
set_option maxHeartbeats 1000000 in
theorem lib_Clone (a : Option Addr) (c : Nat) (l : List Int) (w : World) (ha : RowAt w a (intCells l)) (h0 : 0 < l.length) (hl : l.length ≤ 1000) :
    Calls Try.prog 73 #[.slice a l.length c] w fun e w' => (∃ g cap, e = .returned (.slice (some ⟨g, 0, none⟩) l.length cap) ∧ w'.ownsRow w.heap.size 3 1 (.slice (some ⟨g, 0, none⟩) l.length cap) l.length (intCells l) ∧ l.length ≤ cap ∧ cap ≤ maxLen) ∧ Below w.heap.size w w' := by
  obtain ⟨i0, hi0, hz0, hz1, hz2⟩ := info_int_parts
  obtain ⟨b, o, rfl, hbw, _⟩ := ha.at (i := 0) (by rw [intCells_len]; exact h0)
  have Hi0 := Lib.hid hi0; have Hz0 := Lib.hid hz0; have Hz1 := Lib.hid hz1; have Hz2 := Lib.hid hz2
  have hown : (w.alloc (.cells #[] 3)).ownsRow w.heap.size 3 1 (.slice (some ⟨w.heap.size, 0, none⟩) 0 0) 0 (intCells []) := own_made rfl
  have hb0 := (Below.refl w.heap.size w).alloc (Nat.le_refl _) (.cells #[] 3)
  have hr := ha.below hb0
  have h63 : 0 + l.length ≤ maxLen := by unfold maxLen; omega
  have hby : (0 + l.length) * 8 ≤ 140737488355328 := by omega
  have hbs : w.heap.size ≤ (w.alloc (.cells #[] 3)).heap.size := by simp
  have Hown := Lib.hid hown; have Hb0 := Lib.hid hb0; have Hr := Lib.hid hr
  have heq : ∀ W, (binOp .eql 27 (.slice (some ⟨b, o, none⟩) l.length c) (.slice none 0 0)).run Try.prog W = .ok (.bool false) W := fun W => Lib.run_eql_slice_nil W 27 3 _ _ _ _ _ Try.underlying27
  clear hown hb0 hr ha hi0 hz0 hz1 hz2
  go_enter Try.func73, Try.ntmps73
  go_wp2_with (at_builtin; refine append_row rfl (.tmp 5) (.tmp 6) 27 rfl w.heap.size 3 i0 _ 8 Try.underlying27 Hi0.out Hz0.out Hz1.out Hz2.out (by rfl) _ _ _ rfl Hown.out _ _ _ _ rfl Hr.out (by rw [intCells_len]) (intCells_one l) h63 hby hbs ?_; intro v1 w1 hown1 hg1)
  rw [Nat.zero_add] at hown1
  obtain ⟨g, cap, rfl, hc1, hc2⟩ := own_form hown1 h0
  have Hown1 := Lib.hid hown1
  have Hb := Lib.hid (Hb0.out.grown hg1 (by simp) (fun k hk => (Hown.out.lt k hk).1))
  clear hown1 hg1
  go_wp2
  go_ret
  exact ⟨⟨g, cap, rfl, Hown1.out, hc1, hc2⟩, Hb.out⟩

set_option maxRecDepth 10000 in
set_option maxHeartbeats 1000000 in
theorem impl_mapOf_no (a : Option Addr) (c : Nat) (l : List Int) (w : World) (ha : RowAt w a (intCells l)) (hl : l.length ≤ 1048576) (hM : ¬ Mp.IsM l) :
    Calls Try.prog 62 #[.slice a l.length c] w fun e w' => e = .returned (.tuple #[.pointer none, .bool false]) ∧ Below w.heap.size w w' := by
  have hc := impl_IsMap a c l w ha hl
  rw [decide_eq_false hM] at hc
  have Hc := Lib.hid hc
  clear hc hM ha
  go_enter Try.func62, Try.ntmps62
  go_wp2_with fail
  refine Hc.out.mono ?_
  rintro e w1 ⟨rfl, hb⟩
  go_wp2
  go_ret2
  exact ⟨rfl, hb⟩
set_option maxRecDepth 10000 in
set_option maxHeartbeats 1000000 in
theorem impl_mapOf_yes (a : Option Addr) (c : Nat) (l : List Int) (w : World) (ha : RowAt w a (intCells l)) (hM : Mp.IsM l) :
    Calls Try.prog 62 #[.slice a l.length c] w fun e w' => (∃ p, e = .returned (.tuple #[.pointer (some ⟨p, 0, none⟩), .bool true]) ∧ MapAt w' w.heap.size p (Mp.at_ l) l.length) ∧ Below w.heap.size w w' := by
  have hc := impl_IsMap a c l w ha (by have := hM.2.1; omega)
  rw [decide_eq_true hM] at hc
  have hcl := fun W (h : RowAt W a (intCells l)) => lib_Clone a c l W h (by have := hM.1; omega) (by have := hM.2.1; omega)
  have Hc := Lib.hid hc; have Hcl := Lib.hid hcl; have Ha := Lib.hid ha; have HM := Lib.hid hM
  clear hc hM ha hcl
  go_enter Try.func62, Try.ntmps62
  go_wp2_with fail
  refine Hc.out.mono ?_
  rintro e w1 ⟨rfl, hb⟩
  have Hb := Lib.hid hb; clear hb
  go_wp2_with fail
  refine (Hcl.out _ (Ha.out.below Hb.out)).mono ?_
  rintro e w2 ⟨⟨g, cap, rfl, hown, hc1, hc2⟩, hb2⟩
  have Hown := Lib.hid hown; have Hb2 := Lib.hid hb2
  clear hown hb2
  go_wp2
  go_ret2
  have hb3 := Hb.out.trans (Hb2.out.mono Hb.out.size)
  refine ⟨⟨_, rfl, g, cap, Blk.new _ _ _, ?_, Nat.le_trans Hb.out.size Hb2.out.size, hc1, hc2⟩, hb3.alloc hb3.size _⟩
  have h1 := own_mono (Hown.out.alloc (.cells #[.slice (some ⟨g, 0, none⟩) l.length cap] 45)) Hb.out.size
  rw [Mp.at_row HM.out.2.2.2]
  exact h1

set_option maxRecDepth 10000 in
set_option maxHeartbeats 1000000 in
theorem impl_countEdges (p lo n : Nat) (f : Nat → Nat) (w : World) (h : MapAt w lo p f n) (hn : n ≤ 1000) :
    Calls Try.prog 64 #[.pointer (some ⟨p, 0, none⟩)] w fun e w' => e = .returned (.int .i64 ((n / 2 : Nat) : Int)) ∧ w' = w := by
  obtain ⟨g, cap, hcell, _⟩ := h.open
  have ht : Int.tdiv (n : Int) 2 = ((n / 2 : Nat) : Int) := rfl
  have hw : IntKind.i64.wrap ((n / 2 : Nat) : Int) = ((n / 2 : Nat) : Int) := wrap_small (by omega) (by omega)
  go_enter Try.func64, Try.ntmps64
  go_wp2
  go_ret
  exact ⟨by first | rfl | simp [*], rfl⟩
set_option maxRecDepth 10000 in
set_option maxHeartbeats 1000000 in
theorem impl_hasDart (p lo n : Nat) (f : Nat → Nat) (x : Int) (w : World) (h : MapAt w lo p f n) :
    Calls Try.prog 60 #[.pointer (some ⟨p, 0, none⟩), .int .i64 x] w fun e w' => e = .returned (.bool (decide (0 ≤ x ∧ x < (n : Int)))) ∧ w' = w := by
  obtain ⟨g, cap, hcell, _⟩ := h.open
  by_cases h0 : 0 ≤ x
  · by_cases h1 : x < (n : Int)
    · rw [decide_eq_true (And.intro h0 h1)]
      go_enter Try.func60, Try.ntmps60
      go_wp2
      go_ret
      exact ⟨by first | rfl | simp [*], rfl⟩
    · rw [decide_eq_false (fun h => h1 h.2)]
      go_enter Try.func60, Try.ntmps60
      go_wp2
      go_ret
      exact ⟨by first | rfl | simp [*], rfl⟩
  · rw [decide_eq_false (fun h => h0 h.1)]
    go_enter Try.func60, Try.ntmps60
    go_wp2
    go_ret
    exact ⟨by first | rfl | simp [*], rfl⟩
end Go.Proofs.Ytpgdmbolckogcaa
