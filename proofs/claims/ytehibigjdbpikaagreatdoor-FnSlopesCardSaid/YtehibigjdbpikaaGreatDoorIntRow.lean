/-
  Rows of integers: their cells; rows that can be written.
-/
import Derived.Test.YtehibigjdbpikaaGreatDoorBase
import Derived.Test.YtehibigjdbpikaaGreatDoorSlice
namespace Go.Proofs.YtehibigjdbpikaaGreatDoor
open Go.RowKit

theorem wrap_small {x : Int} (h0 : -9223372036854775808 ≤ x) (h1 : x ≤ 9223372036854775807) : IntKind.i64.wrap x = x := by
  rw [IntKind.wrap_i64]; omega
def intCells (l : List Int) : List Value := l.map (Value.int .i64)
theorem intCells_len (l : List Int) : (intCells l).length = l.length := by simp [intCells]
theorem intCells_get {l : List Int} {i : Nat} (hi : i < l.length) : (intCells l)[i]? = some (.int .i64 l[i]) := by simp [intCells, hi]
theorem intCells_at {w : World} {a : Option Addr} {l : List Int} (h : RowAt w a (intCells l)) {i : Nat} (hi : i < l.length) : ∃ b o, a = some ⟨b, o, none⟩ ∧ b < w.heap.size ∧ w.cell? ⟨b, o + i, none⟩ = some (.int .i64 l[i]) := by
  obtain ⟨b, o, rfl, hb, hc⟩ := h.at (i := i) (by simpa [intCells] using hi)
  exact ⟨b, o, rfl, hb, hc i _ (intCells_get hi)⟩
/-- The machine's integers. -/
def I64s (l : List Int) : Prop := ∀ x ∈ l, -9223372036854775808 ≤ x ∧ x ≤ 9223372036854775807
/-- A row whose block is known, above base: it can be written. -/
def Fresh (w : World) (base : Nat) (t : TypeId) (a : Option Addr) (cs : List Value) : Prop :=
  cs = [] ∨ ∃ g o all, a = some ⟨g, o, none⟩ ∧ base ≤ g ∧ Blk w g t all ∧ ∀ i v, cs[i]? = some v → all[o + i]? = some v
theorem Fresh.row {w : World} {base : Nat} {t : TypeId} {a : Option Addr} {cs : List Value} (h : Fresh w base t a cs) : RowAt w a cs := by
  rcases h with h | ⟨g, o, all, rfl, _, hk, hc⟩
  · exact Or.inl h
  · exact Or.inr ⟨g, o, rfl, hk.lt, fun i v hv => by rw [hk.cell]; exact hc i v hv⟩
theorem Fresh.keeps {w w' : World} {base : Nat} {t : TypeId} {a : Option Addr} {cs : List Value} (h : Fresh w base t a cs) {row : Option Nat} (hg : w.grownBy w' row) (hr : ∀ g, row = some g → g < base) : Fresh w' base t a cs := by
  rcases h with h | ⟨g, o, all, rfl, hb, hk, hc⟩
  · exact Or.inl h
  · exact Or.inr ⟨g, o, all, rfl, hb, hk.grown hg (fun e => by have := hr g e.symm; omega), hc⟩
theorem Fresh.below {w w' : World} {base : Nat} {t : TypeId} {a : Option Addr} {cs : List Value} (h : Fresh w base t a cs) (hg : Below w.heap.size w w') : Fresh w' base t a cs :=
  h.keeps (only_of_below hg none) (fun _ e => by cases e)
theorem Fresh.mono {w : World} {base base' : Nat} {t : TypeId} {a : Option Addr} {cs : List Value} (h : Fresh w base t a cs) (hb : base' ≤ base) : Fresh w base' t a cs := by
  rcases h with h | ⟨g, o, all, rfl, hg, hk, hc⟩
  · exact Or.inl h
  · exact Or.inr ⟨g, o, all, rfl, Nat.le_trans hb hg, hk, hc⟩
theorem Fresh.of_blk {w : World} {g base : Nat} {t : TypeId} {cs : List Value} (h : Blk w g t cs.toArray) (hb : base ≤ g) : Fresh w base t (some ⟨g, 0, none⟩) cs :=
  Or.inr ⟨g, 0, _, rfl, hb, h, fun i v hv => by rw [Nat.zero_add]; simpa using hv⟩
theorem Fresh.part {w : World} {base : Nat} {t : TypeId} {b o : Nat} {cs cs' : List Value} (h : Fresh w base t (some ⟨b, o, none⟩) cs) (j : Nat) (hs : ∀ i v, cs'[i]? = some v → cs[j + i]? = some v) : Fresh w base t (some ⟨b, o + j, none⟩) cs' := by
  rcases h with rfl | ⟨g, o, all, e, hb, hk, hc⟩
  · cases cs' with
    | nil => exact Or.inl rfl
    | cons x r => have := hs 0 x rfl; simp at this
  · cases e
    exact Or.inr ⟨_, _, all, rfl, hb, hk, fun i v hv => by rw [Nat.add_assoc]; exact hc _ v (hs i v hv)⟩
/-- A row of the call's own can be written. -/
theorem own_fresh {w : World} {base : Nat} {e : TypeId} {v : Value} {n : Nat} {cs : List Value} (h : w.ownsRow base e 1 v n cs) (hn : cs.length = n) : ∃ a c, v = .slice a n c ∧ n ≤ c ∧ Fresh w base e a cs := by
  rcases h.2 with ⟨rfl, rfl⟩ | ⟨g, cap, cur, rfl, hb, hh, hle, hm, hc, ht⟩
  · exact ⟨none, 0, rfl, Nat.le_refl _, Or.inl (List.eq_nil_of_length_eq_zero hn)⟩
  · refine ⟨_, _, rfl, by omega, Or.inr ⟨g, 0, cur, rfl, hb, hh, fun i v hv => ?_⟩⟩
    rw [Nat.zero_add]
    rw [← ht, List.getElem?_take] at hv
    split at hv
    · simpa using hv
    · cases hv
end Go.Proofs.YtehibigjdbpikaaGreatDoor
