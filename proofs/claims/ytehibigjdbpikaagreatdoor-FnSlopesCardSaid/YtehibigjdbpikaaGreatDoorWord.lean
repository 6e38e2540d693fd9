/-
  Words, as lists of integers: what the document's chapter on words says of them.
-/
import Derived.Test.YtehibigjdbpikaaGreatDoorBase
import Derived.Test.YtehibigjdbpikaaGreatDoorSlice
import Derived.Test.YtehibigjdbpikaaGreatDoorInts
namespace Go.Proofs.YtehibigjdbpikaaGreatDoor
open Go.RowKit

namespace Word
def Letter (x : Int) : Prop := x ≠ 0 ∧ -8 ≤ x ∧ x ≤ 8
instance (x : Int) : Decidable (Letter x) := by unfold Letter; exact inferInstance
def IsW (l : List Int) : Prop := (∀ x ∈ l, Letter x) ∧ l.length ≤ 24
instance (l : List Int) : Decidable (IsW l) := by unfold IsW; exact inferInstance
theorem IsW.at {l : List Int} (h : IsW l) {i : Nat} (hi : i < l.length) : Letter l[i] := h.1 _ (List.getElem_mem hi)
theorem bad_at {l : List Int} {i : Nat} (hi : i < l.length) (h : ¬ Letter l[i]) : ¬ IsW l := fun hw => h (hw.at hi)
theorem letter_iff (x : Int) : Letter x ↔ (x ≠ 0 ∧ -8 ≤ x ∧ x ≤ 8) := Iff.rfl
theorem letter_false {x : Int} (h : ¬ (x ≠ 0 ∧ -8 ≤ x ∧ x ≤ 8)) : decide (Letter x) = false := decide_eq_false h
theorem letter_true {x : Int} (h : x ≠ 0 ∧ -8 ≤ x ∧ x ≤ 8) : decide (Letter x) = true := decide_eq_true h
theorem letter_neg {x : Int} (h : ¬ (1 ≤ x ∧ x ≤ 8)) : decide (Letter x) = decide (-8 ≤ x ∧ x ≤ -1) := decide_eq_decide.2 (by rw [letter_iff]; omega)
theorem isW_len {l : List Int} (h : ∀ j (hj : j < l.length), j < l.length → Letter l[j]) : decide (IsW l) = decide (l.length ≤ 24) :=
  decide_eq_decide.2 ⟨fun x => x.2, fun hl => ⟨fun x hx => by obtain ⟨i, hi, rfl⟩ := List.mem_iff_getElem.1 hx; exact h i hi hi, hl⟩⟩
theorem all_letters {l : List Int} (h : ∀ j (hj : j < l.length), Letter l[j]) : ∀ x ∈ l, Letter x := by
  intro x hx
  obtain ⟨i, hi, rfl⟩ := List.mem_iff_getElem.1 hx
  exact h i hi

/-- The inverse of letters. -/
def inv (l : List Int) : List Int := (l.map fun x => -x).reverse
theorem inv_len (l : List Int) : (inv l).length = l.length := by simp [inv]
theorem inv_nil : inv [] = [] := rfl
theorem inv_cons (x : Int) (r : List Int) : inv (x :: r) = inv r ++ [-x] := by simp [inv]
theorem inv_drop {l : List Int} {i : Nat} (h : i < l.length) : inv (l.drop i) = inv (l.drop (i + 1)) ++ [-l[i]] := by
  rw [List.drop_eq_getElem_cons h, inv_cons]

/-- What stands after one letter more. -/
def redStep (out : List Int) (x : Int) : List Int := if out.getLast? = some (-x) then out.dropLast else out ++ [x]
def red (l : List Int) : List Int := l.foldl redStep []
theorem red_snoc (l : List Int) (x : Int) : red (l ++ [x]) = redStep (red l) x := by simp [red]
theorem red_take {l : List Int} {i : Nat} (h : i < l.length) : red (l.take (i + 1)) = redStep (red (l.take i)) l[i] := by
  rw [List.take_succ_eq_append_getElem h, red_snoc]
theorem redStep_len (out : List Int) (x : Int) : (redStep out x).length ≤ out.length + 1 := by
  unfold redStep; split <;> simp <;> omega
theorem red_len (l : List Int) : (red l).length ≤ l.length := by
  have key : ∀ (m s : List Int), (m.foldl redStep s).length ≤ s.length + m.length := by
    intro m
    induction m with
    | nil => intro s; simp
    | cons x m ih => intro s; have := ih (redStep s x); have := redStep_len s x; simp only [List.foldl_cons, List.length_cons]; omega
  have := key l []
  simpa [red] using this
theorem redStep_mem {p : Int → Prop} {out : List Int} {x : Int} (ho : ∀ y ∈ out, p y) (hx : p x) : ∀ y ∈ redStep out x, p y := by
  intro y hy
  unfold redStep at hy
  split at hy
  · exact ho y ((List.dropLast_sublist _).subset hy)
  · rcases List.mem_append.1 hy with h | h
    · exact ho y h
    · simp at h; rw [h]; exact hx
theorem red_mem {p : Int → Prop} {l : List Int} (h : ∀ x ∈ l, p x) : ∀ y ∈ red l, p y := by
  have key : ∀ (m s : List Int), (∀ x ∈ m, p x) → (∀ y ∈ s, p y) → ∀ y ∈ m.foldl redStep s, p y := by
    intro m
    induction m with
    | nil => intro s _ hs; exact hs
    | cons x m ih => intro s hm hs; exact ih _ (fun y hy => hm y (List.mem_cons_of_mem _ hy)) (redStep_mem hs (hm x (List.mem_cons_self ..)))
  exact key l [] h (fun _ h => by cases h)
theorem red_w {l : List Int} (h : IsW l) : IsW (red l) := ⟨red_mem h.1, Nat.le_trans (red_len l) h.2⟩
theorem step_back {out : List Int} {x : Int} {k : Nat} (hk : out.length = k + 1) (h : out[k]? = some (-x)) : redStep out x = out.take k := by
  have : out.getLast? = some (-x) := by rw [List.getLast?_eq_getElem?, hk]; simpa using h
  rw [redStep, if_pos this, List.dropLast_eq_take, hk]; simp
theorem step_on {out : List Int} {x : Int} {k : Nat} (hk : out.length = k + 1) {y : Int} (hy : out[k]? = some y) (h : y ≠ -x) : redStep out x = out ++ [x] := by
  have : out.getLast? ≠ some (-x) := by rw [List.getLast?_eq_getElem?, hk]; simp [hy, h]
  rw [redStep, if_neg this]
theorem step_first {out : List Int} {x : Int} (hk : out.length = 0) : redStep out x = out ++ [x] := by
  obtain rfl := List.eq_nil_of_length_eq_zero hk
  simp [redStep]

/-- The list without its two ends. -/
def mid (l : List Int) : List Int := (l.drop 1).dropLast
theorem mid_len (l : List Int) : (mid l).length = l.length - 2 := by simp [mid]; omega
theorem mid_get {l : List Int} {i : Nat} (h : i + 2 < l.length) : (mid l)[i]? = l[1 + i]? := by
  unfold mid
  rw [List.dropLast_eq_take, List.getElem?_take, if_pos (by simp; omega), List.getElem?_drop]
def core (l : List Int) : List Int := if h : 2 ≤ l.length ∧ l[0]? = (l.getLast?.map fun x => -x) then core (mid l) else l
termination_by l.length
decreasing_by rw [mid_len]; omega
theorem core_step {l : List Int} {x y : Int} {k : Nat} (hk : l.length = k + 2) (hx : l[0]? = some x) (hy : l[k + 1]? = some y) (h : x = -y) : core l = core (mid l) := by
  rw [core, dif_pos]
  refine ⟨by omega, ?_⟩
  rw [List.getLast?_eq_getElem?, hk, hx, show k + 2 - 1 = k + 1 from rfl, hy, h]; rfl
theorem core_stop {l : List Int} {x y : Int} {k : Nat} (hk : l.length = k + 2) (hx : l[0]? = some x) (hy : l[k + 1]? = some y) (h : x ≠ -y) : core l = l := by
  rw [core, dif_neg]
  rintro ⟨_, h2⟩
  rw [List.getLast?_eq_getElem?, hk, hx, show k + 2 - 1 = k + 1 from rfl, hy] at h2
  exact h (by simpa using h2)
theorem core_short {l : List Int} (hk : l.length < 2) : core l = l := by
  rw [core, dif_neg]
  rintro ⟨h, _⟩
  omega
theorem mid_mem {l : List Int} {y : Int} (h : y ∈ mid l) : y ∈ l := List.mem_of_mem_drop ((List.dropLast_sublist _).subset h)
theorem core_len (l : List Int) : (core l).length ≤ l.length := by
  induction h : l.length using Nat.strongRecOn generalizing l with
  | ind n ih =>
    rw [core]
    split
    · have := ih (mid l).length (by rw [mid_len]; omega) (mid l) rfl
      rw [mid_len] at this; omega
    · omega
theorem core_mem {l : List Int} {y : Int} (hy : y ∈ core l) : y ∈ l := by
  induction h : l.length using Nat.strongRecOn generalizing l with
  | ind n ih =>
    rw [core] at hy
    split at hy
    · exact mid_mem (ih (mid l).length (by rw [mid_len]; omega) hy rfl)
    · exact hy
theorem core_w {l : List Int} (h : IsW l) : IsW (core l) := ⟨fun x hx => h.1 x (core_mem hx), Nat.le_trans (core_len l) h.2⟩

/-- The word turned by k places. -/
def turn (l : List Int) (k : Int) : List Int := l.drop (k % (l.length : Int)).toNat ++ l.take (k % (l.length : Int)).toNat
theorem turn_len (l : List Int) (k : Int) : (turn l k).length = l.length := by
  unfold turn
  rw [List.length_append, List.length_drop, List.length_take]
  rcases Nat.eq_zero_or_pos l.length with h | h
  · omega
  · have := Int.emod_lt_of_pos k (show (0 : Int) < l.length by omega)
    have := Int.emod_nonneg k (show (l.length : Int) ≠ 0 by omega)
    omega
theorem turn_mem {l : List Int} {k y : Int} (h : y ∈ turn l k) : y ∈ l := by
  rcases List.mem_append.1 h with h | h
  · exact List.mem_of_mem_drop h
  · exact List.mem_of_mem_take h
theorem turn_w {l : List Int} (h : IsW l) (k : Int) : IsW (turn l k) := ⟨fun x hx => h.1 x (turn_mem hx), by rw [turn_len]; exact h.2⟩

/-- The answers. -/
def inverse (l : List Int) : List Int := if IsW l then inv l else []
def reduce (l : List Int) : List Int := if IsW l then red l else []
def coreOf (l : List Int) : List Int := if IsW l then core (red l) else []
def turned (l : List Int) (k : Int) : List Int := if IsW l then turn l k else []
def Conj (v w : List Int) : Prop := IsW v ∧ IsW w ∧ ((∃ k, k < (core (red v)).length ∧ turn (core (red v)) (k : Nat) = core (red w)) ∨ core (red v) = [] ∧ core (red w) = [])
def ProdOk (v w : List Int) : Prop := IsW (v ++ w)
def product (v w : List Int) : List Int := if IsW (v ++ w) then red (v ++ w) else []
theorem prod_iff (v w : List Int) : IsW (v ++ w) ↔ IsW v ∧ IsW w ∧ v.length + w.length ≤ 24 := by
  unfold IsW
  simp only [List.mem_append, List.length_append]
  constructor
  · rintro ⟨h, hl⟩
    exact ⟨⟨fun x hx => h x (Or.inl hx), by omega⟩, ⟨fun x hx => h x (Or.inr hx), by omega⟩, hl⟩
  · rintro ⟨⟨h1, _⟩, ⟨h2, _⟩, hl⟩
    exact ⟨fun x hx => hx.elim (h1 x) (h2 x), hl⟩
def sumPut (s : List Int) (x : Int) : List Int := if 0 < x then s.set (x - 1).toNat (s.getD (x - 1).toNat 0 + 1) else s.set (-x - 1).toNat (s.getD (-x - 1).toNat 0 - 1)
def sums (l : List Int) : List Int := l.foldl sumPut (List.replicate 8 0)
def sumsOf (l : List Int) : List Int := if IsW l then sums l else []
theorem sumPut_len (s : List Int) (x : Int) : (sumPut s x).length = s.length := by unfold sumPut; split <;> simp
theorem sums_take {l : List Int} {i : Nat} (h : i < l.length) : sums (l.take (i + 1)) = sumPut (sums (l.take i)) l[i] := by
  rw [List.take_succ_eq_append_getElem h]; unfold sums; rw [List.foldl_append]; rfl
theorem sums_len (l : List Int) : (sums l).length = 8 := by
  have key : ∀ (m s : List Int), (m.foldl sumPut s).length = s.length := by
    intro m
    induction m with
    | nil => intro s; rfl
    | cons x m ih => intro s; rw [List.foldl_cons, ih, sumPut_len]
  rw [sums, key]; rfl
/-- A sum of letters is no greater than their number. -/
theorem sums_bound (l : List Int) : ∀ j, j < 8 → -(l.length : Int) ≤ (sums l).getD j 0 ∧ (sums l).getD j 0 ≤ l.length := by
  have key : ∀ (m s : List Int) (n : Nat), (∀ j, -(n : Int) ≤ s.getD j 0 ∧ s.getD j 0 ≤ n) → ∀ j, -((n + m.length : Nat) : Int) ≤ (m.foldl sumPut s).getD j 0 ∧ (m.foldl sumPut s).getD j 0 ≤ (n + m.length : Nat) := by
    intro m
    induction m with
    | nil => intro s n h j; simpa using h j
    | cons x m ih =>
      intro s n h j
      have := ih (sumPut s x) (n + 1) (fun j => by
        have hj := h j
        unfold sumPut
        split
        · have hx := h (x - 1).toNat
          rw [List.getD_eq_getElem?_getD, List.getElem?_set]
          rw [List.getD_eq_getElem?_getD] at hj
          split
          · split
            · simp only [Option.getD_some]; omega
            · simp; omega
          · omega
        · have hx := h (-x - 1).toNat
          rw [List.getD_eq_getElem?_getD, List.getElem?_set]
          rw [List.getD_eq_getElem?_getD] at hj
          split
          · split
            · simp only [Option.getD_some]; omega
            · simp; omega
          · omega) j
      simp only [List.foldl_cons, List.length_cons]
      rw [show n + (m.length + 1) = n + 1 + m.length from by omega]
      exact this
  intro j _
  have := key l (List.replicate 8 0) 0 (fun j => by
    rw [List.getD_eq_getElem?_getD, List.getElem?_replicate]; split <;> simp) j
  simpa [sums] using this

def low (x : Int) : UInt8 := if 0 < x then UInt8.ofNat (96 + x.toNat) else UInt8.ofNat (64 + (-x).toNat)
def text (l : List Int) : List UInt8 := l.map low
/-- WordText's answer. -/
def said (l : List Int) : List UInt8 := if IsW l then (if l = [] then [45] else text l) else []
/-- The letter of a byte; 0 where there is none. -/
def letterOf (b : UInt8) : Int := if 97 ≤ b.toNat ∧ b.toNat < 105 then (b.toNat : Int) - 96 else if 65 ≤ b.toNat ∧ b.toNat < 73 then -((b.toNat : Int) - 64) else 0
def Parses (s : List UInt8) : Prop := s = [45] ∨ (s ≠ [] ∧ s.length ≤ 24 ∧ ∀ b ∈ s, letterOf b ≠ 0)
instance (s : List UInt8) : Decidable (Parses s) := by unfold Parses; exact inferInstance
def parsed (s : List UInt8) : List Int := if s = [45] then [] else if Parses s then s.map letterOf else []
end Word
end Go.Proofs.YtehibigjdbpikaaGreatDoor
