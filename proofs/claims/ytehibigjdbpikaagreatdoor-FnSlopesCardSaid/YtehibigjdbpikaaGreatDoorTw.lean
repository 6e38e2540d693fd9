/-
  Homology classes, twists and tables of integers: pure.
-/
import Derived.Test.YtehibigjdbpikaaGreatDoorBase
namespace Go.Proofs.YtehibigjdbpikaaGreatDoor

namespace Tw
def Fits (l : List Int) : Prop := ∀ x ∈ l, -1000 ≤ x ∧ x ≤ 1000
instance (l : List Int) : Decidable (Fits l) := by unfold Fits; exact inferInstance
def ok (l : List Int) : Bool := decide (Fits l)
def keep (l : List Int) : List Int := if Fits l then l else []
def nth (x : List Int) (i : Nat) : Int := x.getD i 0
/-- A class of g handles. -/
def IsC (g : Int) (x : List Int) : Prop := (1 ≤ g ∧ g ≤ 3) ∧ (x.length : Int) = 2 * g ∧ Fits x
instance (g : Int) (x : List Int) : Decidable (IsC g x) := by unfold IsC; exact inferInstance
def formTo (x y : List Int) : Nat → Int
  | 0 => 0
  | k + 1 => formTo x y k + (nth x (2 * k) * nth y (2 * k + 1) - nth x (2 * k + 1) * nth y (2 * k))
def form (x y : List Int) : Int := formTo x y (x.length / 2)
def formOf (g : Int) (x y : List Int) : Int := if IsC g x ∧ IsC g y then form x y else 0
/-- x and n times c. -/
def tw (c x : List Int) (n : Int) : List Int := (List.range x.length).map fun i => nth x i + n * nth c i
def TwOk (g : Int) (c x : List Int) (k : Int) : Prop := (IsC g c ∧ IsC g x) ∧ (-20 ≤ k ∧ k ≤ 20) ∧ Fits (tw c x (k * form c x))
instance (g : Int) (c x : List Int) (k : Int) : Decidable (TwOk g c x k) := by unfold TwOk; exact inferInstance
def twist (g : Int) (c x : List Int) (k : Int) : List Int := if TwOk g c x k then tw c x (k * form c x) else []
def unit (n j : Nat) : List Int := (List.replicate n 0).set j 1
/-- The columns of a table. -/
def col (T : List (List Int)) (j : Nat) : List Int := T.map fun r => nth r j
def cols (T : List (List Int)) : List (List Int) := (List.range T.length).map (col T)
/-- The images of the units under one twist. -/
def imgs (c : List Int) (n : Nat) : List (List Int) := (List.range n).map fun j => tw c (unit n j) (1 * form c (unit n j))
def MatOk (g : Int) (c : List Int) : Prop := IsC g c ∧ ∀ y ∈ imgs c c.length, Fits y
instance (g : Int) (c : List Int) : Decidable (MatOk g c) := by unfold MatOk; exact inferInstance
def mat (g : Int) (c : List Int) : List (List Int) := if MatOk g c then cols (imgs c c.length) else []
def IsT (t : List (List Int)) : Prop := (1 ≤ t.length ∧ t.length ≤ 6) ∧ ∀ r ∈ t, r.length = t.length ∧ Fits r
instance (t : List (List Int)) : Decidable (IsT t) := by unfold IsT; exact inferInstance
def dotTo (r x : List Int) : Nat → Int
  | 0 => 0
  | j + 1 => dotTo r x j + nth r j * nth x j
def dot (r x : List Int) : Int := dotTo r x x.length
def app (t : List (List Int)) (x : List Int) : List Int := t.map fun r => dot r x
def AppOk (t : List (List Int)) (x : List Int) : Prop := (IsT t ∧ x.length = t.length ∧ Fits x) ∧ Fits (app t x)
instance (t : List (List Int)) (x : List Int) : Decidable (AppOk t x) := by unfold AppOk; exact inferInstance
def apply (t : List (List Int)) (x : List Int) : List Int := if AppOk t x then app t x else []
def TimesOk (s t : List (List Int)) : Prop := (IsT s ∧ IsT t ∧ s.length = t.length) ∧ ∀ c ∈ cols t, Fits (app s c)
instance (s t : List (List Int)) : Decidable (TimesOk s t) := by unfold TimesOk; exact inferInstance
def times (s t : List (List Int)) : List (List Int) := if TimesOk s t then cols ((cols t).map (app s)) else []
def IsSym (g : Int) (t : List (List Int)) : Prop := (1 ≤ g ∧ g ≤ 3) ∧ (t.length : Int) = 2 * g ∧ IsT t ∧ ∀ a, a < t.length → ∀ b, b < t.length → form (col t a) (col t b) = form (unit t.length a) (unit t.length b)
instance (g : Int) (t : List (List Int)) : Decidable (IsSym g t) := by unfold IsSym; exact inferInstance
def gcd (x : List Int) : Nat := x.foldl (fun d n => Nat.gcd d n.natAbs) 0
def Prim (g : Int) (x : List Int) : Prop := IsC g x ∧ gcd x = 1
instance (g : Int) (x : List Int) : Decidable (Prim g x) := by unfold Prim; exact inferInstance
def Braid (g : Int) (c d : List Int) : Prop :=
  (TimesOk (times (mat g c) (mat g d)) (mat g c) ∧ TimesOk (times (mat g d) (mat g c)) (mat g d)) ∧ times (times (mat g c) (mat g d)) (mat g c) = times (times (mat g d) (mat g c)) (mat g d)
instance (g : Int) (c d : List Int) : Decidable (Braid g c d) := by unfold Braid; exact inferInstance
def Comm (g : Int) (c d : List Int) : Prop :=
  (TimesOk (mat g c) (mat g d) ∧ TimesOk (mat g d) (mat g c)) ∧ times (mat g c) (mat g d) = times (mat g d) (mat g c)
instance (g : Int) (c d : List Int) : Decidable (Comm g c d) := by unfold Comm; exact inferInstance

/-! ### Lengths, places, bounds -/
theorem ok_true {l : List Int} (h : Fits l) : ok l = true := decide_eq_true h
theorem ok_false {l : List Int} (h : ¬ Fits l) : ok l = false := decide_eq_false h
theorem keep_true {l : List Int} (h : Fits l) : keep l = l := if_pos h
theorem keep_false {l : List Int} (h : ¬ Fits l) : keep l = [] := if_neg h
theorem nth_get {x : List Int} {i : Nat} (h : i < x.length) : nth x i = x[i] := by simp [nth, List.getD_eq_getElem?_getD, h]
theorem nth_get? {x : List Int} {i : Nat} {v : Int} (h : x[i]? = some v) : nth x i = v := by simp [nth, List.getD_eq_getElem?_getD, h]
theorem get?_nth {x : List Int} {i : Nat} (h : i < x.length) : x[i]? = some (nth x i) := by rw [nth_get h, List.getElem?_eq_getElem h]
theorem nth_ge {x : List Int} {i : Nat} (h : x.length ≤ i) : nth x i = 0 := by simp [nth, List.getD_eq_getElem?_getD, h]
theorem ext {x y : List Int} (hl : x.length = y.length) (h : ∀ i, i < x.length → nth x i = nth y i) : x = y := by
  refine List.ext_getElem hl fun i h1 h2 => ?_
  have := h i h1
  rwa [nth_get h1, nth_get h2] at this
theorem nth_range {n i : Nat} {f : Nat → Int} (h : i < n) : nth ((List.range n).map f) i = f i := by
  simp [nth, List.getD_eq_getElem?_getD, h]
theorem nth_map {α : Type} {l : List α} {i : Nat} {f : α → Int} {a : α} (h : l[i]? = some a) : nth (l.map f) i = f a := by
  simp [nth, List.getD_eq_getElem?_getD, h]
theorem Fits.nth {x : List Int} (h : Fits x) (i : Nat) : -1000 ≤ nth x i ∧ nth x i ≤ 1000 := by
  by_cases hi : i < x.length
  · rw [nth_get hi]; exact h _ (List.getElem_mem hi)
  · rw [nth_ge (by omega)]; omega
theorem fits_of {x : List Int} (h : ∀ i, i < x.length → -1000 ≤ Tw.nth x i ∧ Tw.nth x i ≤ 1000) : Fits x := by
  intro v hv
  obtain ⟨i, hi, rfl⟩ := List.mem_iff_getElem.1 hv
  have := h i hi
  rwa [nth_get hi] at this
theorem tw_len (c x : List Int) (n : Int) : (tw c x n).length = x.length := by simp [tw]
theorem tw_nth {c x : List Int} {n : Int} {i : Nat} (h : i < x.length) : nth (tw c x n) i = nth x i + n * nth c i := nth_range h
theorem unit_len (n j : Nat) : (unit n j).length = n := by simp [unit]
theorem unit_nth {n j i : Nat} (h : i < n) : nth (unit n j) i = if i = j then 1 else 0 := by
  unfold unit
  rw [nth_get (by simpa using h), List.getElem_set]
  by_cases e : j = i
  · rw [if_pos e, if_pos e.symm]
  · rw [if_neg e, if_neg (fun h => e h.symm)]; simp
theorem unit_fits (n j : Nat) : Fits (unit n j) := fits_of fun i hi => by
  rw [unit_len] at hi; rw [unit_nth hi]; split <;> omega
theorem col_len (T : List (List Int)) (j : Nat) : (col T j).length = T.length := by simp [col]
theorem col_nth {T : List (List Int)} {i j : Nat} {r : List Int} (h : T[i]? = some r) : nth (col T j) i = nth r j := nth_map h
theorem cols_len (T : List (List Int)) : (cols T).length = T.length := by simp [cols]
theorem cols_get {T : List (List Int)} {j : Nat} (h : j < T.length) : (cols T)[j]? = some (col T j) := by simp [cols, h]
theorem cols_mem {T : List (List Int)} {r : List Int} (h : r ∈ cols T) : ∃ j, j < T.length ∧ r = col T j := by
  unfold cols at h
  obtain ⟨j, hj, rfl⟩ := List.mem_map.1 h
  exact ⟨j, List.mem_range.1 hj, rfl⟩
theorem cols_row {T : List (List Int)} {r : List Int} (h : r ∈ cols T) : r.length = T.length := by
  obtain ⟨j, _, rfl⟩ := cols_mem h; exact col_len T j
theorem col_cols {T : List (List Int)} (hT : ∀ r ∈ T, r.length = T.length) {i : Nat} {r : List Int} (h : T[i]? = some r) : col (cols T) i = r := by
  have hr := hT r (List.mem_of_getElem? h)
  refine ext (by rw [col_len, cols_len, hr]) fun k hk => ?_
  rw [col_len, cols_len] at hk
  rw [col_nth (cols_get hk), col_nth h]
theorem cols_cols {T : List (List Int)} (hT : ∀ r ∈ T, r.length = T.length) : cols (cols T) = T := by
  refine List.ext_getElem (by rw [cols_len, cols_len]) fun i h1 h2 => ?_
  have e1 : (cols (cols T))[i]? = some (col (cols T) i) := cols_get (by rw [cols_len]; exact h2)
  rw [List.getElem?_eq_getElem h1] at e1
  rw [Option.some.inj e1]
  exact col_cols hT (List.getElem?_eq_getElem h2)
theorem imgs_len (c : List Int) (n : Nat) : (imgs c n).length = n := by simp [imgs]
theorem imgs_get {c : List Int} {n j : Nat} (h : j < n) : (imgs c n)[j]? = some (tw c (unit n j) (1 * form c (unit n j))) := by simp [imgs, h]
theorem imgs_row {c : List Int} {n : Nat} {y : List Int} (h : y ∈ imgs c n) : y.length = n := by
  unfold imgs at h
  obtain ⟨j, _, rfl⟩ := List.mem_map.1 h
  rw [tw_len, unit_len]
theorem app_len (t : List (List Int)) (x : List Int) : (app t x).length = t.length := by simp [app]
theorem app_nth {t : List (List Int)} {x r : List Int} {i : Nat} (h : t[i]? = some r) : nth (app t x) i = dot r x := nth_map h
theorem mul_abs {a b : Int} {A B : Nat} (ha : -(A : Int) ≤ a ∧ a ≤ A) (hb : -(B : Int) ≤ b ∧ b ≤ B) : -((A * B : Nat) : Int) ≤ a * b ∧ a * b ≤ ((A * B : Nat) : Int) := by
  have h := Nat.mul_le_mul (show a.natAbs ≤ A by omega) (show b.natAbs ≤ B by omega)
  rw [← Int.natAbs_mul] at h
  omega
theorem formTo_bound {x y : List Int} (hx : Fits x) (hy : Fits y) : ∀ (k : Nat), -(2000000 * (k : Int)) ≤ formTo x y k ∧ formTo x y k ≤ 2000000 * (k : Int)
  | 0 => by simp [formTo]
  | k + 1 => by
    have ih := formTo_bound hx hy k
    have h1 := mul_abs (A := 1000) (B := 1000) (hx.nth (2 * k)) (hy.nth (2 * k + 1))
    have h2 := mul_abs (A := 1000) (B := 1000) (hx.nth (2 * k + 1)) (hy.nth (2 * k))
    show _ ≤ formTo x y k + _ ∧ formTo x y k + _ ≤ _
    push_cast
    omega
theorem IsC.len {g : Int} {x : List Int} (h : IsC g x) : x.length ≤ 6 ∧ 2 ≤ x.length ∧ x.length = 2 * g.toNat ∧ x.length / 2 = g.toNat := by
  obtain ⟨h1, h2, _⟩ := h; omega
theorem form_bound {g : Int} {x y : List Int} (hx : IsC g x) (hy : IsC g y) : -6000000 ≤ form x y ∧ form x y ≤ 6000000 := by
  have h := formTo_bound hx.2.2 hy.2.2 (x.length / 2)
  have := hx.len
  unfold form; omega
theorem formOf_of {g : Int} {x y : List Int} (hx : IsC g x) (hy : IsC g y) : formOf g x y = form x y := if_pos ⟨hx, hy⟩
theorem tw_bound {g k : Int} {c x : List Int} (hc : IsC g c) (hx : IsC g x) (hk : -20 ≤ k ∧ k ≤ 20) (i : Nat) : (-120000000 ≤ k * form c x ∧ k * form c x ≤ 120000000) ∧ (-120000000000 ≤ k * form c x * nth c i ∧ k * form c x * nth c i ≤ 120000000000) := by
  have h1 := mul_abs (A := 20) (B := 6000000) hk (form_bound hc hx)
  have h2 := mul_abs (A := 120000000) (B := 1000) h1 (hc.2.2.nth i)
  exact ⟨h1, h2⟩
theorem dotTo_bound {r x : List Int} (hr : Fits r) (hx : Fits x) : ∀ (k : Nat), -(1000000 * (k : Int)) ≤ dotTo r x k ∧ dotTo r x k ≤ 1000000 * (k : Int)
  | 0 => by simp [dotTo]
  | k + 1 => by
    have ih := dotTo_bound hr hx k
    have h1 := mul_abs (A := 1000) (B := 1000) (hr.nth k) (hx.nth k)
    show _ ≤ dotTo r x k + _ ∧ dotTo r x k + _ ≤ _
    push_cast
    omega
theorem unit_isC {g : Int} (hg : 1 ≤ g ∧ g ≤ 3) {n : Nat} (hn : (n : Int) = 2 * g) (j : Nat) : IsC g (unit n j) := ⟨hg, by rw [unit_len]; exact hn, unit_fits n j⟩
theorem twist_of {g k : Int} {c x : List Int} (h : TwOk g c x k) : twist g c x k = tw c x (k * form c x) := if_pos h
theorem twist_none {g k : Int} {c x : List Int} (h : ¬ TwOk g c x k) : twist g c x k = [] := if_neg h
theorem twist_keep {g k : Int} {c x : List Int} (hc : IsC g c) (hx : IsC g x) (hk : -20 ≤ k ∧ k ≤ 20) : twist g c x k = keep (tw c x (k * form c x)) ∧ decide (TwOk g c x k) = ok (tw c x (k * form c x)) := by
  have hok : TwOk g c x k ↔ Fits (tw c x (k * form c x)) := ⟨fun h => h.2.2, fun h => ⟨⟨hc, hx⟩, hk, h⟩⟩
  by_cases h : Fits (tw c x (k * form c x))
  · exact ⟨by rw [keep_true h, twist_of (hok.2 h)], by rw [ok_true h, decide_eq_true (hok.2 h)]⟩
  · exact ⟨by rw [keep_false h, twist_none (fun h' => h (hok.1 h'))], by rw [ok_false h, decide_eq_false (fun h' => h (hok.1 h'))]⟩
theorem mat_of {g : Int} {c : List Int} (h : MatOk g c) : mat g c = cols (imgs c c.length) := if_pos h
theorem mat_none {g : Int} {c : List Int} (h : ¬ MatOk g c) : mat g c = [] := if_neg h
theorem not_isT_nil : ¬ IsT [] := fun h => by have := h.1.1; simp at this
theorem fits_cols {T : List (List Int)} (h : ∀ y ∈ T, Fits y) : ∀ r ∈ cols T, Fits r := by
  intro r hr
  obtain ⟨j, hj, rfl⟩ := cols_mem hr
  intro v hv
  unfold col at hv
  obtain ⟨y, hy, rfl⟩ := List.mem_map.1 hv
  exact (h y hy).nth j
theorem MatOk.isT {g : Int} {c : List Int} (h : MatOk g c) : IsT (mat g c) ∧ (mat g c).length = c.length := by
  have hl : (cols (imgs c c.length)).length = c.length := by rw [cols_len, imgs_len]
  have := h.1.len
  rw [mat_of h]
  refine ⟨⟨by omega, fun r hr => ⟨?_, fits_cols h.2 r hr⟩⟩, hl⟩
  rw [hl, cols_row hr, imgs_len]
theorem cols_isT {T : List (List Int)} (h : IsT T) : IsT (cols T) := by
  refine ⟨by rw [cols_len]; exact h.1, fun r hr => ⟨by rw [cols_len]; exact cols_row hr, fits_cols (fun y hy => (h.2 y hy).2) r hr⟩⟩
theorem TimesOk.isT {s t : List (List Int)} (h : TimesOk s t) : IsT (times s t) ∧ (times s t).length = t.length := by
  have hl : (cols ((cols t).map (app s))).length = t.length := by rw [cols_len, List.length_map, cols_len]
  rw [show times s t = _ from if_pos h]
  refine ⟨⟨by rw [hl]; exact h.1.2.1.1, fun r hr => ⟨?_, fits_cols (fun y hy => ?_) r hr⟩⟩, hl⟩
  · rw [hl, cols_row hr, List.length_map, cols_len]
  · obtain ⟨c, hc, rfl⟩ := List.mem_map.1 hy
    exact h.2 c hc
theorem times_none {s t : List (List Int)} (h : ¬ TimesOk s t) : times s t = [] := if_neg h
theorem col_fits {T : List (List Int)} (h : IsT T) (j : Nat) : Fits (col T j) := by
  intro v hv
  unfold col at hv
  obtain ⟨y, hy, rfl⟩ := List.mem_map.1 hv
  exact (h.2 y hy).2.nth j

/-! ### The form -/
theorem formTo_swap (x y : List Int) : ∀ k, formTo x y k = - formTo y x k
  | 0 => rfl
  | k + 1 => by
    have ih := formTo_swap x y k
    simp only [formTo, ih]
    grind
theorem form_swap {x y : List Int} (h : x.length = y.length) : form x y = - form y x := by
  unfold form; rw [h]; exact formTo_swap x y _
theorem formTo_lin (u : List Int) {x d : List Int} {n : Int} : ∀ k, 2 * k ≤ x.length → formTo u (tw d x n) k = formTo u x k + n * formTo u d k
  | 0, _ => by simp [formTo]
  | k + 1, h => by
    have ih := formTo_lin u (x := x) (d := d) (n := n) k (by omega)
    simp only [formTo, ih, tw_nth (show 2 * k < x.length by omega), tw_nth (show 2 * k + 1 < x.length by omega)]
    grind
theorem form_lin {u x d : List Int} {n : Int} (h : u.length = x.length) : form u (tw d x n) = form u x + n * form u d :=
  formTo_lin u _ (by omega)
theorem form_self (c : List Int) : form c c = 0 := by
  have := formTo_swap c c (c.length / 2)
  unfold form; omega
theorem formTo_congr {x y y' : List Int} : ∀ k, (∀ i, i < 2 * k → nth y i = nth y' i) → formTo x y k = formTo x y' k
  | 0, _ => rfl
  | k + 1, h => by
    simp only [formTo]
    rw [formTo_congr k (fun i hi => h i (by omega)), h (2 * k) (by omega), h (2 * k + 1) (by omega)]
/-- A twist keeps the form. -/
theorem form_tw {c x y : List Int} (hx : c.length = x.length) (hy : c.length = y.length) : form (tw c x (form c x)) (tw c y (form c y)) = form x y := by
  have e1 : form (tw c x (form c x)) (tw c y (form c y)) = form (tw c x (form c x)) y + form c y * form (tw c x (form c x)) c := form_lin (by rw [tw_len]; omega)
  have e2 : form (tw c x (form c x)) y = - form y (tw c x (form c x)) := form_swap (by rw [tw_len]; omega)
  have e3 : form y (tw c x (form c x)) = form y x + form c x * form y c := form_lin (by omega)
  have e4 : form (tw c x (form c x)) c = - form c (tw c x (form c x)) := form_swap (by rw [tw_len]; omega)
  have e5 : form c (tw c x (form c x)) = form c x + form c x * form c c := form_lin hx
  have e6 := form_self c
  have e7 : form y x = - form x y := form_swap (by omega)
  have e8 : form y c = - form c y := form_swap (by omega)
  rw [e1, e2, e3, e4, e5, e6, e7, e8]
  grind
/-- A twist is undone by the twist back. -/
theorem tw_back {c x : List Int} {k : Int} (hx : c.length = x.length) : tw c (tw c x (k * form c x)) (-k * form c (tw c x (k * form c x))) = x := by
  have e : form c (tw c x (k * form c x)) = form c x := by rw [form_lin hx, form_self]; simp
  rw [e]
  refine ext (by rw [tw_len, tw_len]) fun i hi => ?_
  rw [tw_len, tw_len] at hi
  rw [tw_nth (by rw [tw_len]; exact hi), tw_nth hi]
  grind

/-! ### Twists as tables -/
/-- How a class meets the units. -/
def bas (c : List Int) (j : Nat) : Int := if j % 2 = 0 then - nth c (j + 1) else nth c (j - 1)
theorem formTo_unit {c : List Int} {n j : Nat} (hj : j < n) : ∀ k, 2 * k ≤ n → formTo c (unit n j) k = if j < 2 * k then bas c j else 0
  | 0, _ => by simp [formTo]
  | k + 1, h => by
    have ih := formTo_unit (c := c) hj k (by omega)
    simp only [formTo, ih, unit_nth (show 2 * k < n by omega), unit_nth (show 2 * k + 1 < n by omega)]
    by_cases h1 : j < 2 * k
    · rw [if_pos h1, if_neg (by omega), if_neg (by omega), if_pos (by omega)]; simp
    · rw [if_neg h1]
      by_cases h2 : j = 2 * k
      · subst h2
        rw [if_neg (by omega), if_pos rfl, if_pos (by omega)]
        unfold bas
        rw [if_pos (by omega)]; simp
      · by_cases h3 : j = 2 * k + 1
        · subst h3
          rw [if_pos rfl, if_neg (by omega), if_pos (by omega)]
          unfold bas
          rw [if_neg (by omega)]; simp
        · rw [if_neg (by omega), if_neg (by omega), if_neg (by omega)]; simp
theorem form_unit {c : List Int} {m j : Nat} (hc : c.length = 2 * m) (hj : j < c.length) : form c (unit c.length j) = bas c j := by
  unfold form
  rw [formTo_unit hj _ (by omega), if_pos (by omega)]
/-- Sums of products. -/
def sum (u : Nat → Int) (y : List Int) : Nat → Int
  | 0 => 0
  | j + 1 => sum u y j + u j * nth y j
theorem dotTo_sum {r x : List Int} {u : Nat → Int} : ∀ k, (∀ j, j < k → nth r j = u j) → dotTo r x k = sum u x k
  | 0, _ => rfl
  | k + 1, h => by
    simp only [dotTo, sum]
    rw [dotTo_sum k (fun j hj => h j (by omega)), h k (by omega)]
theorem sum_bas (c y : List Int) : ∀ k, sum (bas c) y (2 * k) = formTo c y k
  | 0 => rfl
  | k + 1 => by
    have ih := sum_bas c y k
    show sum (bas c) y (2 * k + 1 + 1) = _
    simp only [sum, formTo, ih]
    have e1 : bas c (2 * k) = - nth c (2 * k + 1) := if_pos (by omega)
    have e2 : bas c (2 * k + 1) = nth c (2 * k) := by unfold bas; rw [if_neg (by omega)]; rfl
    rw [e1, e2]
    grind
theorem sum_delta {y : List Int} {i : Nat} : ∀ k, sum (fun j => if i = j then 1 else 0) y k = if i < k then nth y i else 0
  | 0 => by simp [sum]
  | k + 1 => by
    simp only [sum, sum_delta (y := y) (i := i) k]
    by_cases h : i = k
    · subst h; rw [if_neg (by omega), if_pos rfl, if_pos (by omega)]; simp
    · rw [if_neg h]
      by_cases h2 : i < k
      · rw [if_pos h2, if_pos (by omega)]; simp
      · rw [if_neg h2, if_neg (by omega)]; simp
theorem sum_lin {u v z : Nat → Int} {a b : Int} {y : List Int} : ∀ k, sum (fun j => u j + a * v j + b * z j) y k = sum u y k + a * sum v y k + b * sum z y k
  | 0 => by simp [sum]
  | k + 1 => by
    simp only [sum, sum_lin (u := u) (v := v) (z := z) (a := a) (b := b) (y := y) k]
    grind
/-- A row of a table that is the identity and twists of two classes. -/
theorem dot_row {c d r y : List Int} {i m : Nat} {a b : Int} (hc : c.length = 2 * m) (hd : d.length = 2 * m) (hy : y.length = 2 * m) (hi : i < 2 * m)
    (h : ∀ j, j < 2 * m → nth r j = (if i = j then 1 else 0) + a * bas d j + b * bas c j) : dot r y = nth y i + a * form d y + b * form c y := by
  unfold dot
  rw [hy, dotTo_sum _ h, sum_lin, sum_delta, if_pos hi, sum_bas, sum_bas]
  unfold form
  rw [hc, hd, show 2 * m / 2 = m by omega]
/-- One twist of a class. -/
def R (c y : List Int) : List Int := tw c y (form c y)
theorem R_len (c y : List Int) : (R c y).length = y.length := tw_len _ _ _
theorem R_nth {c y : List Int} {i : Nat} (h : i < y.length) : nth (R c y) i = nth y i + form c y * nth c i := tw_nth h
theorem imgs_eq (c : List Int) (n : Nat) : imgs c n = (List.range n).map fun j => R c (unit n j) := by
  unfold imgs R; simp only [Int.one_mul]
theorem cols_get_row {T : List (List Int)} {i : Nat} (h : i < T.length) {f : Nat → List Int} {n : Nat} (hT : T = (List.range n).map f) : ∀ j, j < n → nth (col T i) j = nth (f j) i := by
  intro j hj
  subst hT
  exact col_nth (by simp [hj])
theorem app_mat {g : Int} {c y : List Int} (h : MatOk g c) (hy : y.length = c.length) : app (mat g c) y = R c y := by
  have hl := h.1.len
  refine ext (by rw [app_len, R_len, h.isT.2, hy]) fun i hi => ?_
  rw [app_len, h.isT.2] at hi
  rw [mat_of h, app_nth (cols_get (by rw [imgs_len]; exact hi)), R_nth (by omega)]
  rw [dot_row (c := c) (d := c) (i := i) (m := g.toNat) (a := 0) (b := nth c i) hl.2.2.1 hl.2.2.1 (by omega) (by omega) fun j hj => ?_]
  · grind
  · rw [cols_get_row (by rw [imgs_len]; exact hi) (imgs_eq c c.length) j (by omega), R_nth (by rw [unit_len]; exact hi), unit_nth hi, form_unit hl.2.2.1 (by omega)]
    grind
theorem mat_col {g : Int} {c : List Int} (h : MatOk g c) {j : Nat} (hj : j < c.length) : col (mat g c) j = R c (unit c.length j) := by
  rw [mat_of h]
  refine (col_cols (fun r hr => by rw [imgs_len]; exact imgs_row hr) (imgs_get hj)).trans ?_
  unfold R; simp
theorem times_col {s t : List (List Int)} (h : TimesOk s t) {j : Nat} (hj : j < t.length) : col (times s t) j = app s (col t j) := by
  rw [show times s t = _ from if_pos h]
  refine col_cols (fun r hr => ?_) ?_
  · obtain ⟨c, _, rfl⟩ := List.mem_map.1 hr
    rw [app_len, h.1.2.2, List.length_map, cols_len]
  · rw [List.getElem?_map, cols_get hj]; rfl
theorem table_ext {s t : List (List Int)} (hs : IsT s) (ht : IsT t) (hl : s.length = t.length) (h : ∀ j, j < s.length → col s j = col t j) : s = t := by
  refine List.ext_getElem hl fun i h1 h2 => ?_
  have e1 := (hs.2 _ (List.getElem_mem h1)).1
  have e2 := (ht.2 _ (List.getElem_mem h2)).1
  refine ext (by omega) fun j hj => ?_
  have := congrArg (fun l => nth l i) (h j (by omega))
  rwa [col_nth (List.getElem?_eq_getElem h1), col_nth (List.getElem?_eq_getElem h2)] at this
/-- The table of a twist keeps the form. -/
theorem mat_sym {g : Int} {c : List Int} (h : MatOk g c) : IsSym g (mat g c) := by
  refine ⟨h.1.1, by rw [h.isT.2]; exact h.1.2.1, h.isT.1, fun a ha b hb => ?_⟩
  rw [h.isT.2] at ha hb ⊢
  rw [mat_col h ha, mat_col h hb]
  exact form_tw (by rw [unit_len]) (by rw [unit_len])

/-! ### Small classes -/
def Small (x : List Int) : Prop := ∀ i, -2 ≤ nth x i ∧ nth x i ≤ 2
theorem bas_small {x : List Int} (h : Small x) (j : Nat) : -2 ≤ bas x j ∧ bas x j ≤ 2 := by
  unfold bas; split
  · have := h (j + 1); omega
  · exact h _
theorem small_mat {g : Int} {c : List Int} (h : IsC g c) (hs : Small c) : MatOk g c := by
  refine ⟨h, fun y hy => ?_⟩
  have hl := h.len
  rw [imgs_eq] at hy
  obtain ⟨j, hj, rfl⟩ := List.mem_map.1 hy
  rw [List.mem_range] at hj
  refine fits_of fun i hi => ?_
  rw [R_len, unit_len] at hi
  rw [R_nth (by rw [unit_len]; exact hi), unit_nth hi, form_unit hl.2.2.1 hj]
  have := mul_abs (A := 2) (B := 2) (bas_small hs j) (hs i)
  split <;> omega
theorem times_mat_ok {g : Int} {c d : List Int} (hc : IsC g c) (hd : IsC g d) (sc : Small c) (sd : Small d) (he : -1 ≤ form c d ∧ form c d ≤ 1) : TimesOk (mat g c) (mat g d) := by
  have mc := small_mat hc sc; have md := small_mat hd sd
  have lc := hc.len; have ld := hd.len
  refine ⟨⟨mc.isT.1, md.isT.1, by rw [mc.isT.2, md.isT.2]; omega⟩, fun y hy => ?_⟩
  obtain ⟨j, hj, rfl⟩ := cols_mem hy
  rw [md.isT.2] at hj
  rw [mat_col md hj, app_mat mc (by rw [R_len, unit_len]; omega)]
  refine fits_of fun i hi => ?_
  rw [R_len, R_len, unit_len] at hi
  rw [R_nth (by rw [R_len, unit_len]; exact hi), R_nth (by rw [unit_len]; exact hi), unit_nth hi, form_unit ld.2.2.1 hj]
  have e : form c (R d (unit d.length j)) = bas c j + bas d j * form c d := by
    unfold R
    rw [form_lin (by rw [unit_len]; omega), show d.length = c.length by omega, form_unit lc.2.2.1 (by omega), ← show d.length = c.length by omega, form_unit ld.2.2.1 hj]
  rw [e]
  have h1 := mul_abs (A := 2) (B := 1) (bas_small sd j) he
  have h0 := bas_small sc j
  have h2 := mul_abs (A := 4) (B := 2) (a := bas c j + bas d j * form c d) (by omega) (sc i)
  have h3 := mul_abs (A := 2) (B := 2) (bas_small sd j) (sd i)
  split <;> omega
theorem times_mat_col {g : Int} {c d : List Int} (hc : IsC g c) (hd : IsC g d) (h : TimesOk (mat g c) (mat g d)) (mc : MatOk g c) (md : MatOk g d) {j : Nat} (hj : j < d.length) : col (times (mat g c) (mat g d)) j = R c (R d (unit d.length j)) := by
  have lc := hc.len; have ld := hd.len
  rw [times_col h (by rw [md.isT.2]; exact hj), mat_col md hj, app_mat mc (by rw [R_len, unit_len]; omega)]
theorem R_comm {c d y : List Int} (hd : c.length = d.length) (hy : c.length = y.length) (h : form c d = 0) : R c (R d y) = R d (R c y) := by
  have h' : form d c = 0 := by rw [form_swap hd.symm, h]; rfl
  refine ext (by simp only [R_len]) fun i hi => ?_
  simp only [R_len] at hi
  have e1 : form c (R d y) = form c y + form d y * form c d := form_lin hy
  have e2 : form d (R c y) = form d y + form c y * form d c := form_lin (by omega)
  rw [R_nth (by rw [R_len]; exact hi), R_nth hi, R_nth (by rw [R_len]; exact hi), R_nth hi, e1, e2, h, h']
  grind
theorem comm_small {g : Int} {c d : List Int} (hc : IsC g c) (hd : IsC g d) (sc : Small c) (sd : Small d) (h : form c d = 0) : Comm g c d := by
  have lc := hc.len; have ld := hd.len
  have h' : form d c = 0 := by rw [form_swap (by omega), h]; rfl
  have o1 := times_mat_ok hc hd sc sd (by omega)
  have o2 := times_mat_ok hd hc sd sc (by omega)
  have mc := small_mat hc sc; have md := small_mat hd sd
  refine ⟨⟨o1, o2⟩, table_ext o1.isT.1 o2.isT.1 (by rw [o1.isT.2, o2.isT.2, mc.isT.2, md.isT.2]; omega) fun j hj => ?_⟩
  rw [o1.isT.2, md.isT.2] at hj
  rw [times_mat_col hc hd o1 mc md hj, times_mat_col hd hc o2 md mc (by omega), R_comm (by omega) (by rw [unit_len]; omega) h, show d.length = c.length by omega]
/-- The product of two tables of twists moves every list as both twists do. -/
theorem app_times {g : Int} {c d y : List Int} (hc : IsC g c) (hd : IsC g d) (h : TimesOk (mat g c) (mat g d)) (mc : MatOk g c) (md : MatOk g d) (hy : y.length = c.length) : app (times (mat g c) (mat g d)) y = R c (R d y) := by
  have lc := hc.len; have ld := hd.len
  have hT := h.isT
  rw [md.isT.2] at hT
  refine ext (by rw [app_len, R_len, R_len, hT.2]; omega) fun i hi => ?_
  rw [app_len, hT.2] at hi
  obtain ⟨r, hr⟩ : ∃ r, (times (mat g c) (mat g d))[i]? = some r := ⟨_, List.getElem?_eq_getElem (by rw [hT.2]; exact hi)⟩
  rw [app_nth hr, R_nth (by rw [R_len]; omega), R_nth (by omega)]
  have e : form c (R d y) = form c y + form d y * form c d := form_lin (by omega)
  rw [dot_row (c := c) (d := d) (i := i) (m := g.toNat) (a := nth d i + form c d * nth c i) (b := nth c i) lc.2.2.1 ld.2.2.1 (by omega) (by omega) fun j hj => ?_, e]
  · grind
  · have e2 : nth r j = nth (R c (R d (unit d.length j))) i := by
      rw [← times_mat_col hc hd h mc md (by omega), col_nth hr]
    have e3 : form c (R d (unit d.length j)) = bas c j + bas d j * form c d := by
      unfold R
      rw [form_lin (by rw [unit_len]; omega), show d.length = c.length by omega, form_unit lc.2.2.1 (by omega), ← show d.length = c.length by omega, form_unit ld.2.2.1 (by omega)]
    rw [e2, R_nth (by rw [R_len, unit_len]; exact hi), R_nth (by rw [unit_len]; exact hi), unit_nth hi, e3, form_unit ld.2.2.1 (by omega)]
    grind
theorem braid_ok {g : Int} {c d : List Int} (hc : IsC g c) (hd : IsC g d) (sc : Small c) (sd : Small d) (he : -1 ≤ form c d ∧ form c d ≤ 1) : TimesOk (times (mat g c) (mat g d)) (mat g c) := by
  have lc := hc.len; have ld := hd.len
  have o := times_mat_ok hc hd sc sd he
  have mc := small_mat hc sc; have md := small_mat hd sd
  refine ⟨⟨o.isT.1, mc.isT.1, by rw [o.isT.2, md.isT.2, mc.isT.2]; omega⟩, fun y hy => ?_⟩
  obtain ⟨j, hj, rfl⟩ := cols_mem hy
  rw [mc.isT.2] at hj
  rw [mat_col mc hj, app_times hc hd o mc md (by rw [R_len, unit_len])]
  refine fits_of fun i hi => ?_
  simp only [R_len, unit_len] at hi
  have e1 : form d (R c (unit c.length j)) = bas d j + bas c j * form d c := by
    unfold R
    rw [form_lin (by rw [unit_len]; omega), form_unit lc.2.2.1 hj, show c.length = d.length by omega, form_unit ld.2.2.1 (by omega)]
  have e2 : form c (R c (unit c.length j)) = bas c j := by
    unfold R
    rw [form_lin (by rw [unit_len]), form_unit lc.2.2.1 hj, form_self]; simp
  have e3 : form c (R d (R c (unit c.length j))) = form c (R c (unit c.length j)) + form d (R c (unit c.length j)) * form c d := form_lin (by rw [R_len, unit_len])
  rw [R_nth (by simp only [R_len, unit_len]; exact hi), R_nth (by simp only [R_len, unit_len]; exact hi), R_nth (by rw [unit_len]; exact hi), unit_nth hi, e3, e1, e2, form_unit lc.2.2.1 hj]
  have he' : -1 ≤ form d c ∧ form d c ≤ 1 := by rw [form_swap (by omega)]; omega
  have hbc := bas_small sc j; have hbd := bas_small sd j
  have h1 := mul_abs (A := 2) (B := 1) hbc he'
  have h2 := mul_abs (A := 4) (B := 1) (a := bas d j + bas c j * form d c) (by omega) he
  have h3 := mul_abs (A := 6) (B := 2) (a := bas c j + (bas d j + bas c j * form d c) * form c d) (by omega) (sc i)
  have h4 := mul_abs (A := 4) (B := 2) (a := bas d j + bas c j * form d c) (by omega) (sd i)
  have h5 := mul_abs (A := 2) (B := 2) hbc (sc i)
  split <;> omega
theorem R_braid {c d y : List Int} (hd : c.length = d.length) (hy : c.length = y.length) (h : form c d = 1 ∨ form c d = -1) : R c (R d (R c y)) = R d (R c (R d y)) := by
  have h' : form d c = - form c d := form_swap hd.symm
  have h1 : form c d * form c d = 1 := by rcases h with h | h <;> rw [h] <;> rfl
  refine ext (by simp only [R_len]) fun i hi => ?_
  simp only [R_len] at hi
  have s1 := form_self c; have s2 := form_self d
  have a1 : form c (R c y) = form c y + form c y * form c c := form_lin hy
  have a2 : form d (R c y) = form d y + form c y * form d c := form_lin (by omega)
  have a3 : form c (R d (R c y)) = form c (R c y) + form d (R c y) * form c d := form_lin (by rw [R_len]; omega)
  have b1 : form d (R d y) = form d y + form d y * form d d := form_lin (by omega)
  have b2 : form c (R d y) = form c y + form d y * form c d := form_lin (by omega)
  have b3 : form d (R c (R d y)) = form d (R d y) + form c (R d y) * form d c := form_lin (by rw [R_len]; omega)
  rw [R_nth (by simp only [R_len]; exact hi), R_nth (by simp only [R_len]; exact hi), R_nth hi, R_nth (by simp only [R_len]; exact hi), R_nth (by simp only [R_len]; exact hi), R_nth hi, a3, b3, a1, a2, b1, b2, h', s1, s2]
  grind
theorem braid_small {g : Int} {c d : List Int} (hc : IsC g c) (hd : IsC g d) (sc : Small c) (sd : Small d) (h : form c d = 1 ∨ form c d = -1) : Braid g c d := by
  have lc := hc.len; have ld := hd.len
  have h' : form d c = - form c d := form_swap (by omega)
  have p1 := times_mat_ok hc hd sc sd (by omega)
  have p2 := times_mat_ok hd hc sd sc (by omega)
  have o1 := braid_ok hc hd sc sd (by omega)
  have o2 := braid_ok hd hc sd sc (by omega)
  have mc := small_mat hc sc; have md := small_mat hd sd
  refine ⟨⟨o1, o2⟩, table_ext o1.isT.1 o2.isT.1 (by rw [o1.isT.2, o2.isT.2, mc.isT.2, md.isT.2]; omega) fun j hj => ?_⟩
  rw [o1.isT.2, mc.isT.2] at hj
  rw [times_col o1 (by rw [mc.isT.2]; exact hj), times_col o2 (by rw [md.isT.2]; omega), mat_col mc hj, mat_col md (by omega), app_times hc hd p1 mc md (by rw [R_len, unit_len]), app_times hd hc p2 md mc (by rw [R_len, unit_len]), show d.length = c.length by omega]
  exact R_braid (by omega) (by rw [unit_len]) h
/-! ### The greatest common divisor -/
theorem gcd_take {x : List Int} {i : Nat} {v : Int} (h : x[i]? = some v) : gcd (x.take (i + 1)) = Nat.gcd (gcd (x.take i)) v.natAbs := by
  unfold gcd
  rw [List.take_add_one, h, List.foldl_append]; rfl
theorem gcd_step (d n : Int) : Nat.gcd n.natAbs (d.tmod n).natAbs = Nat.gcd d.natAbs n.natAbs := by
  rw [Int.natAbs_tmod, Nat.gcd_comm, ← Nat.gcd_rec, Nat.gcd_comm]
end Tw
end Go.Proofs.YtehibigjdbpikaaGreatDoor
