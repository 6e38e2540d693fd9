/-
  Words without inverse neighbours are a group; two of these groups, sewn along one word, act on rows of cosets (an amalgam): pure. Words of the groups of surfaces: relators, steps of Dehn, what is left, sums of letters: pure. A word of four letters without inverse neighbours that acts trivially on the amalgam of two sides holds more than half of the relator (Dehn's theorem for two handles): pure. What the law on groups turns on: acting letters, Dehn's theorem, sums, three sheets: pure.
-/
import Derived.Test.YtfaagbmaekoogaaWord
namespace Go.Proofs.Ytfaagbmaekoogaa
open Word

namespace Am
/-- No letter stands before its inverse. -/
def Rd : List Int → Prop
  | [] => True
  | [_] => True
  | x :: y :: r => y ≠ -x ∧ Rd (y :: r)
theorem Rd.tail {x : Int} {l : List Int} (h : Rd (x :: l)) : Rd l := by
  cases l with
  | nil => trivial
  | cons y r => exact h.2
theorem Rd.cons {x : Int} {l : List Int} (h : Rd l) (hx : ∀ y, l.head? = some y → y ≠ -x) : Rd (x :: l) := by
  cases l with
  | nil => trivial
  | cons y r => exact ⟨hx y rfl, h⟩
theorem Rd.right : ∀ {u v : List Int}, Rd (u ++ v) → Rd v := by
  intro u
  induction u with
  | nil => intro v h; exact h
  | cons x u ih => intro v h; exact ih h.tail
theorem Rd.left : ∀ {u v : List Int}, Rd (u ++ v) → Rd u := by
  intro u
  induction u with
  | nil => intro v h; trivial
  | cons x u ih =>
    intro v h
    refine (ih h.tail).cons fun y hy => ?_
    cases u with
    | nil => cases hy
    | cons z u => cases hy; exact h.1
theorem Rd.mid {u v : List Int} (h : Rd (u ++ v)) {x y : Int} (hx : u.getLast? = some x) (hy : v.head? = some y) : y ≠ -x := by
  induction u with
  | nil => cases hx
  | cons a u ih =>
    cases u with
    | nil =>
      simp at hx; subst hx
      cases v with
      | nil => cases hy
      | cons b v => cases hy; exact h.1
    | cons b u =>
      rw [List.getLast?_cons_cons] at hx
      exact ih h.tail hx
theorem Rd.join {u v : List Int} (hu : Rd u) (hv : Rd v) (h : ∀ x y, u.getLast? = some x → v.head? = some y → y ≠ -x) : Rd (u ++ v) := by
  induction u with
  | nil => exact hv
  | cons a u ih =>
    refine (ih hu.tail (fun x y hx hy => h x y ?_ hy)).cons fun y hy => ?_
    · cases u with
      | nil => cases hx
      | cons b u => rw [List.getLast?_cons_cons]; exact hx
    · cases u with
      | nil => exact h a y rfl hy
      | cons b u => cases hy; exact hu.1
theorem snoc_cases (l : List Int) : l = [] ∨ ∃ t x, l = t ++ [x] := by
  rcases List.eq_nil_or_concat l with h | ⟨t, x, h⟩
  · exact Or.inl h
  · exact Or.inr ⟨t, x, by simpa using h⟩
theorem redStep_snoc_back (t : List Int) (x : Int) : redStep (t ++ [-x]) x = t := by
  unfold redStep; rw [if_pos (by simp)]; simp
theorem redStep_on {t : List Int} {x : Int} (h : t.getLast? ≠ some (-x)) : redStep t x = t ++ [x] := by
  unfold redStep; rw [if_neg h]
theorem redStep_rd {s : List Int} (h : Rd s) (x : Int) : Rd (redStep s x) := by
  by_cases hx : s.getLast? = some (-x)
  · unfold redStep; rw [if_pos hx]
    rcases snoc_cases s with rfl | ⟨t, y, rfl⟩
    · exact h
    · simp; exact h.left
  · rw [redStep_on hx]
    refine h.join trivial fun y z hy hz => ?_
    cases hz
    intro e; subst e
    exact hx (by rw [hy]; simp)
theorem fold_rd {s : List Int} (h : Rd s) (v : List Int) : Rd (v.foldl redStep s) := by
  induction v generalizing s with
  | nil => exact h
  | cons x v ih => exact ih (redStep_rd h x)
theorem red_rd (l : List Int) : Rd (red l) := fold_rd (s := []) trivial l
theorem fold_of_rd {s v : List Int} (h : Rd (s ++ v)) : v.foldl redStep s = s ++ v := by
  induction v generalizing s with
  | nil => simp
  | cons x v ih =>
    rw [List.foldl_cons, redStep_on, ih]
    · simp
    · simpa using h
    · intro e
      exact h.mid e rfl (by simp)
theorem red_of_rd {l : List Int} (h : Rd l) : red l = l := fold_of_rd (s := []) h
theorem red_red (l : List Int) : red (red l) = red l := red_of_rd (red_rd l)
theorem redStep_back {s : List Int} (h : Rd s) (x : Int) : redStep (redStep s x) (-x) = s := by
  by_cases hx : s.getLast? = some (-x)
  · rcases snoc_cases s with rfl | ⟨t, y, rfl⟩
    · cases hx
    · simp at hx; subst hx
      rw [redStep_snoc_back, redStep_on]
      intro e
      exact h.mid e rfl (by simp)
  · rw [redStep_on hx]
    have := redStep_snoc_back s (-x)
    simpa using this
theorem fold_red {s t : List Int} (hs : Rd s) (ht : Rd t) (v : List Int) : (v.foldl redStep t).foldl redStep s = v.foldl redStep (t.foldl redStep s) := by
  induction v generalizing t with
  | nil => rfl
  | cons x v ih =>
    rw [List.foldl_cons, ih (redStep_rd ht x), List.foldl_cons]
    congr 1
    by_cases hx : t.getLast? = some (-x)
    · rcases snoc_cases t with rfl | ⟨t, y, rfl⟩
      · cases hx
      · simp at hx; subst hx
        rw [redStep_snoc_back, List.foldl_append, List.foldl_cons, List.foldl_nil]
        have := redStep_back (fold_rd hs t) (-x)
        simp at this
        exact this.symm
    · rw [redStep_on hx, List.foldl_append, List.foldl_cons, List.foldl_nil]
theorem red_append (u v : List Int) : red (u ++ v) = v.foldl redStep (red u) := by unfold red; rw [List.foldl_append]
theorem red_left (u v : List Int) : red (red u ++ v) = red (u ++ v) := by rw [red_append, red_append, red_red]
theorem red_right (u v : List Int) : red (u ++ red v) = red (u ++ v) := by
  rw [red_append, red_append]
  exact fold_red (t := []) (red_rd u) trivial v
/-- The product of two words, reduced. -/
def mul (u v : List Int) : List Int := red (u ++ v)
theorem mul_assoc (u v w : List Int) : mul (mul u v) w = mul u (mul v w) := by
  unfold mul; rw [red_left, red_right, List.append_assoc]
theorem mul_rd (u v : List Int) : Rd (mul u v) := red_rd _
theorem mul_one {u : List Int} (h : Rd u) : mul u [] = u := by unfold mul; rw [List.append_nil, red_of_rd h]
theorem one_mul {u : List Int} (h : Rd u) : mul [] u = u := red_of_rd h
theorem inv_append (u v : List Int) : inv (u ++ v) = inv v ++ inv u := by simp [inv]
theorem inv_inv (u : List Int) : inv (inv u) = u := by
  unfold inv; simp [Function.comp_def]
theorem red_pair (x : Int) : red [x, -x] = [] := by
  show redStep (redStep [] x) (-x) = []
  exact redStep_back (s := []) trivial x
theorem mul_inv (u : List Int) : mul u (inv u) = [] := by
  induction u with
  | nil => rfl
  | cons x u ih =>
    unfold mul at ih ⊢
    rw [inv_cons, show x :: u ++ (inv u ++ [-x]) = [x] ++ ((u ++ inv u) ++ [-x]) from by simp, ← red_right, ← red_left (u ++ inv u), ih, red_right]
    exact red_pair x
theorem inv_mul (u : List Int) : mul (inv u) u = [] := by
  have := mul_inv (inv u); rwa [inv_inv] at this
theorem inv_rd {u : List Int} (h : Rd u) : Rd (inv u) := by
  induction u with
  | nil => trivial
  | cons x u ih =>
    rw [inv_cons]
    refine (ih h.tail).join trivial fun a b ha hb => ?_
    cases hb
    cases u with
    | nil => cases ha
    | cons y u =>
      rw [inv_cons] at ha
      simp at ha; subst ha
      have := h.1; omega
/-- The word along which the two sides are sewn, and its powers. -/
def P : Nat → List Int
  | 0 => []
  | n + 1 => 1 :: 2 :: -1 :: -2 :: P n
def M : Nat → List Int
  | 0 => []
  | n + 1 => 2 :: 1 :: -2 :: -1 :: M n
def zp : Int → List Int
  | .ofNat n => P n
  | .negSucc n => M (n + 1)
theorem P_head (n : Nat) : (P n).head? = some 1 ∨ P n = [] := by cases n <;> simp [P]
theorem M_head (n : Nat) : (M n).head? = some 2 ∨ M n = [] := by cases n <;> simp [M]
theorem P_rd : ∀ n, Rd (P n)
  | 0 => trivial
  | n + 1 => ⟨by decide, by decide, by decide, (P_rd n).cons fun y hy => by
      rcases P_head n with h | h <;> rw [h] at hy <;> cases hy; decide⟩
theorem M_rd : ∀ n, Rd (M n)
  | 0 => trivial
  | n + 1 => ⟨by decide, by decide, by decide, (M_rd n).cons fun y hy => by
      rcases M_head n with h | h <;> rw [h] at hy <;> cases hy; decide⟩
theorem zp_rd : ∀ k : Int, Rd (zp k)
  | .ofNat n => P_rd n
  | .negSucc n => M_rd (n + 1)
theorem zp_zero : zp 0 = [] := rfl
theorem P_len (n : Nat) : (P n).length = 4 * n := by induction n <;> simp [P]; omega
theorem M_len (n : Nat) : (M n).length = 4 * n := by induction n <;> simp [M]; omega
def Z : List Int := [1, 2, -1, -2]
def Zi : List Int := [2, 1, -2, -1]
theorem P_succ (n : Nat) : mul Z (P n) = P (n + 1) := red_of_rd (P_rd (n + 1))
theorem M_succ (n : Nat) : mul Zi (M n) = M (n + 1) := red_of_rd (M_rd (n + 1))
theorem Z_Zi : mul Z Zi = [] := by decide
theorem Zi_Z : mul Zi Z = [] := by decide
theorem Z_zp (k : Int) : mul Z (zp k) = zp (k + 1) := by
  cases k with
  | ofNat n => exact P_succ n
  | negSucc n =>
    show mul Z (M (n + 1)) = _
    rw [← M_succ, ← mul_assoc, Z_Zi, one_mul (M_rd n)]
    cases n with
    | zero => rfl
    | succ n => rfl
theorem Zi_zp (k : Int) : mul Zi (zp k) = zp (k - 1) := by
  have := Z_zp (k - 1)
  rw [Int.sub_add_cancel] at this
  rw [← this, ← mul_assoc, Zi_Z, one_mul (zp_rd _)]
theorem zp_add (j k : Int) : mul (zp j) (zp k) = zp (j + k) := by
  cases j with
  | ofNat n =>
    induction n with
    | zero => show mul [] (zp k) = zp (0 + k); rw [one_mul (zp_rd _), Int.zero_add]
    | succ n ih =>
      show mul (P (n + 1)) (zp k) = _
      rw [← P_succ, mul_assoc, show P n = zp (.ofNat n) from rfl, ih, Z_zp]
      congr 1; simp only [Int.ofNat_eq_natCast]; omega
  | negSucc n =>
    induction n with
    | zero => show mul Zi (zp k) = _; rw [Zi_zp]; congr 1; omega
    | succ n ih =>
      show mul (M (n + 2)) (zp k) = _
      rw [← M_succ, mul_assoc, show M (n + 1) = zp (.negSucc n) from rfl, ih, Zi_zp]
      congr 1; omega
theorem zp_inj {j k : Int} (h : zp j = zp k) : j = k := by
  have key : ∀ j : Int, zp j = [] → j = 0 := by
    intro j hj
    cases j with
    | ofNat n => cases n with
      | zero => rfl
      | succ n => cases hj
    | negSucc n => cases hj
  have h2 : zp (j - k) = [] := by
    have e : mul (zp j) (zp (-k)) = mul (zp k) (zp (-k)) := by rw [h]
    rw [zp_add, zp_add, Int.add_right_neg] at e
    exact e
  have := key _ h2; omega
/-- A power of the word. -/
def Pw (u : List Int) : Prop := ∃ k, u = zp k
theorem zp_cancel (k : Int) {u : List Int} (h : Rd u) : mul (zp (-k)) (mul (zp k) u) = u := by
  rw [← mul_assoc, zp_add, Int.add_left_neg, zp_zero, one_mul h]
theorem Pw.of_left {k : Int} {u : List Int} (hu : Rd u) (h : Pw (mul (zp k) u)) : Pw u := by
  obtain ⟨j, hj⟩ := h
  refine ⟨-k + j, ?_⟩
  rw [← zp_cancel k hu, hj, zp_add]
theorem Pw.of_right {k : Int} {u : List Int} (hu : Rd u) (h : Pw (mul u (zp k))) : Pw u := by
  obtain ⟨j, hj⟩ := h
  refine ⟨j + -k, ?_⟩
  have : mul (mul u (zp k)) (zp (-k)) = u := by rw [mul_assoc, zp_add, Int.add_right_neg, zp_zero, mul_one hu]
  rw [← this, hj, zp_add]
/-- The same coset. -/
def Co (u v : List Int) : Prop := ∃ k, mul (zp k) v = u
theorem Co.refl {u : List Int} (h : Rd u) : Co u u := ⟨0, one_mul h⟩
theorem Co.symm {u v : List Int} (hv : Rd v) (h : Co u v) : Co v u := by
  obtain ⟨k, rfl⟩ := h
  exact ⟨-k, zp_cancel k hv⟩
theorem Co.trans {u v w : List Int} (h : Co u v) (h' : Co v w) : Co u w := by
  obtain ⟨k, rfl⟩ := h
  obtain ⟨j, rfl⟩ := h'
  exact ⟨k + j, by rw [← zp_add, mul_assoc]⟩
noncomputable def rep (u : List Int) : List Int := Classical.epsilon fun v => Rd v ∧ Co u v
theorem rep_spec {u : List Int} (h : Rd u) : Rd (rep u) ∧ Co u (rep u) := Classical.epsilon_spec (p := fun v => Rd v ∧ Co u v) ⟨u, h, Co.refl h⟩
theorem rep_co {u v : List Int} (hv : Rd v) (h : Co u v) : rep u = rep v := by
  unfold rep
  congr 1
  funext t
  refine propext ⟨fun ⟨a, b⟩ => ⟨a, (h.symm hv).trans b⟩, fun ⟨a, b⟩ => ⟨a, h.trans b⟩⟩
theorem rep_rep {u : List Int} (h : Rd u) : rep (rep u) = rep u := (rep_co (rep_spec h).1 (rep_spec h).2).symm
theorem rep_pw {u : List Int} (h : Rd u) (hp : Pw (rep u)) : Pw u := by
  obtain ⟨k, hk⟩ := (rep_spec h).2
  obtain ⟨j, hj⟩ := hp
  exact ⟨k + j, by rw [← hk, hj, zp_add]⟩
noncomputable def expo (u : List Int) : Int := Classical.epsilon fun k => mul (zp k) (rep u) = u
theorem expo_spec {u : List Int} (h : Rd u) : mul (zp (expo u)) (rep u) = u := Classical.epsilon_spec (p := fun k => mul (zp k) (rep u) = u) (rep_spec h).2
noncomputable def expo1 (u : List Int) : Int := Classical.epsilon fun k => u = zp k
theorem expo1_spec {u : List Int} (h : Pw u) : u = zp (expo1 u) := Classical.epsilon_spec (p := fun k => u = zp k) h
theorem mul_right_cancel {u v t : List Int} (hu : Rd u) (hv : Rd v) (h : mul u t = mul v t) : u = v := by
  have := congrArg (fun x => mul x (inv t)) h
  simp only [mul_assoc, mul_inv] at this
  rwa [mul_one hu, mul_one hv] at this

/-- A state: a power, and cosets on alternating sides. -/
abbrev St := Int × List (Bool × List Int)
def Alt : List (Bool × List Int) → Prop
  | [] => True
  | [x] => Rd x.2 ∧ rep x.2 = x.2 ∧ ¬ Pw x.2
  | x :: y :: r => (Rd x.2 ∧ rep x.2 = x.2 ∧ ¬ Pw x.2) ∧ x.1 ≠ y.1 ∧ Alt (y :: r)
theorem Alt.head {x : Bool × List Int} {r : List (Bool × List Int)} (h : Alt (x :: r)) : Rd x.2 ∧ rep x.2 = x.2 ∧ ¬ Pw x.2 := by
  cases r with
  | nil => exact h
  | cons y r => exact h.1
theorem Alt.tail {x : Bool × List Int} {r : List (Bool × List Int)} (h : Alt (x :: r)) : Alt r := by
  cases r with
  | nil => trivial
  | cons y r => exact h.2.2
/-- The list does not begin on the side s. -/
def Free (s : Bool) (l : List (Bool × List Int)) : Prop := ∀ x, l.head? = some x → x.1 ≠ s
theorem Alt.free {x : Bool × List Int} {r : List (Bool × List Int)} (h : Alt (x :: r)) : Free x.1 r := by
  cases r with
  | nil => intro y hy; cases hy
  | cons y r => intro t ht; cases ht; exact fun e => h.2.1 e.symm
theorem Alt.cons {x : Bool × List Int} {r : List (Bool × List Int)} (h : Alt r) (hx : Rd x.2 ∧ rep x.2 = x.2 ∧ ¬ Pw x.2) (hf : Free x.1 r) : Alt (x :: r) := by
  cases r with
  | nil => exact hx
  | cons y r => exact ⟨hx, fun e => hf y rfl e.symm, h⟩
def top (s : Bool) (n : St) : List Int × List (Bool × List Int) :=
  match n.2 with
  | [] => (zp n.1, [])
  | x :: r => if x.1 = s then (mul (zp n.1) x.2, r) else (zp n.1, x :: r)
open Classical in
noncomputable def push (s : Bool) (v : List Int) (l : List (Bool × List Int)) : St :=
  if Pw v then (expo1 v, l) else (expo v, (s, rep v) :: l)
theorem top_free {s : Bool} {k : Int} {l : List (Bool × List Int)} (h : Free s l) : top s (k, l) = (zp k, l) := by
  cases l with
  | nil => rfl
  | cons x r => unfold top; simp only; rw [if_neg (h x rfl)]
theorem top_spec (s : Bool) {n : St} (h : Alt n.2) : Rd (top s n).1 ∧ Alt (top s n).2 ∧ Free s (top s n).2 := by
  obtain ⟨k, l⟩ := n
  cases l with
  | nil => exact ⟨zp_rd _, trivial, fun x hx => by cases hx⟩
  | cons x r =>
    by_cases e : x.1 = s
    · subst e
      unfold top; simp only [if_true]
      exact ⟨mul_rd _ _, Alt.tail h, Alt.free h⟩
    · unfold top; simp only [if_neg e]
      exact ⟨zp_rd _, h, fun y hy => by cases hy; exact e⟩
theorem push_alt {s : Bool} {v : List Int} {l : List (Bool × List Int)} (hv : Rd v) (hl : Alt l) (hf : Free s l) : Alt (push s v l).2 := by
  unfold push
  split
  · exact hl
  · rename_i hp
    exact Alt.cons (x := (s, rep v)) hl ⟨(rep_spec hv).1, rep_rep hv, fun h => hp (rep_pw hv h)⟩ hf
theorem top_push {s : Bool} {v : List Int} {l : List (Bool × List Int)} (hv : Rd v) (hf : Free s l) : top s (push s v l) = (v, l) := by
  unfold push
  split
  · rename_i hp
    rw [top_free hf, ← expo1_spec hp]
  · unfold top; simp only [if_true]
    rw [expo_spec hv]
theorem push_top {s : Bool} {n : St} (h : Alt n.2) : push s (top s n).1 (top s n).2 = n := by
  obtain ⟨k, l⟩ := n
  have free : ∀ l, Free s l → push s (top s (k, l)).1 (top s (k, l)).2 = (k, l) := by
    intro l hf
    rw [top_free hf]
    unfold push
    have hp : Pw (zp k) := ⟨k, rfl⟩
    rw [if_pos hp, ← zp_inj (expo1_spec hp)]
  cases l with
  | nil => exact free [] (fun x hx => by cases hx)
  | cons x r =>
    by_cases e : x.1 = s
    · subst e
      obtain ⟨hx1, hx2, hx3⟩ := Alt.head h
      unfold top; simp only [if_true]
      unfold push
      have hnp : ¬ Pw (mul (zp k) x.2) := fun hp => hx3 (hp.of_left hx1)
      have hrep : rep (mul (zp k) x.2) = x.2 := by rw [rep_co hx1 ⟨k, rfl⟩, hx2]
      rw [if_neg hnp, hrep]
      have := expo_spec (mul_rd (zp k) x.2)
      rw [hrep] at this
      have := zp_inj (mul_right_cancel (zp_rd _) (zp_rd _) this)
      rw [this]
    · exact free _ (fun y hy => by cases hy; exact e)
/-- An element of a side acts. -/
noncomputable def act (s : Bool) (u : List Int) (n : St) : St := push s (mul u (top s n).1) (top s n).2
theorem act_alt {s : Bool} {u : List Int} {n : St} (h : Alt n.2) : Alt (act s u n).2 :=
  push_alt (mul_rd _ _) (top_spec s h).2.1 (top_spec s h).2.2
theorem act_act {s : Bool} {u v : List Int} {n : St} (h : Alt n.2) : act s u (act s v n) = act s (mul u v) n := by
  unfold act
  rw [top_push (mul_rd _ _) (top_spec s h).2.2, mul_assoc]
theorem act_one {s : Bool} {n : St} (h : Alt n.2) : act s [] n = n := by
  unfold act
  rw [one_mul (top_spec s h).1, push_top h]
theorem act_zp {s : Bool} {j : Int} {n : St} (h : Alt n.2) : act s (zp j) n = (j + n.1, n.2) := by
  have e : top s (j + n.1, n.2) = (mul (zp j) (top s n).1, (top s n).2) := by
    obtain ⟨k, l⟩ := n
    have free : ∀ l, Free s l → top s (j + k, l) = (mul (zp j) (top s (k, l)).1, (top s (k, l)).2) := by
      intro l hf
      rw [top_free hf, top_free hf]
      simp only [zp_add]
    cases l with
    | nil => exact free [] (fun x hx => by cases hx)
    | cons x r =>
      by_cases e : x.1 = s
      · subst e
        unfold top; simp only [if_true]
        rw [← zp_add, mul_assoc]
      · exact free _ (fun y hy => by cases hy; exact e)
  have := push_top (s := s) (n := (j + n.1, n.2)) h
  rw [e] at this
  exact this
/-- Elements that are no powers, on alternating sides, lead away. -/
def Blocks : List (Bool × List Int) → Prop
  | [] => True
  | [x] => ¬ Pw x.2
  | x :: y :: r => ¬ Pw x.2 ∧ x.1 ≠ y.1 ∧ Blocks (y :: r)
noncomputable def acts (l : List (Bool × List Int)) (n : St) : St := l.foldr (fun x n => act x.1 x.2 n) n
theorem acts_alt {l : List (Bool × List Int)} {n : St} (h : Alt n.2) : Alt (acts l n).2 := by
  induction l with
  | nil => exact h
  | cons x l ih => exact act_alt ih
theorem Blocks.tail {x : Bool × List Int} {r : List (Bool × List Int)} (h : Blocks (x :: r)) : Blocks r := by
  cases r with
  | nil => trivial
  | cons y r => exact h.2.2
theorem Blocks.head {x : Bool × List Int} {r : List (Bool × List Int)} (h : Blocks (x :: r)) : ¬ Pw x.2 := by
  cases r with
  | nil => exact h
  | cons y r => exact h.1
theorem Blocks.cons {x : Bool × List Int} {r : List (Bool × List Int)} (h : Blocks r) (hx : ¬ Pw x.2) (hf : Free x.1 r) : Blocks (x :: r) := by
  cases r with
  | nil => exact hx
  | cons y r => exact ⟨hx, fun e => hf y rfl e.symm, h⟩
theorem Blocks.free {x : Bool × List Int} {r : List (Bool × List Int)} (h : Blocks (x :: r)) : Free x.1 r := by
  cases r with
  | nil => intro y hy; cases hy
  | cons y r => intro t ht; cases ht; exact fun e => h.2.1 e.symm
theorem Blocks.away {l : List (Bool × List Int)} (h : Blocks l) (hr : ∀ x ∈ l, Rd x.2) : (acts l (0, [])).2.length = l.length ∧ ∀ x, (acts l (0, [])).2.head? = some x → ∃ y, l.head? = some y ∧ y.1 = x.1 := by
  induction l with
  | nil => exact ⟨rfl, fun x hx => by cases hx⟩
  | cons x l ih =>
    obtain ⟨h1, h2⟩ := ih h.tail (fun y hy => hr y (List.mem_cons_of_mem _ hy))
    have hf : Free x.1 (acts l (0, [])).2 := by
      intro y hy e
      obtain ⟨t, ht, hty⟩ := h2 y hy
      exact h.free t ht (hty.trans e)
    show (act x.1 x.2 (acts l (0, []))).2.length = _ ∧ ∀ y, (act x.1 x.2 (acts l (0, []))).2.head? = some y → _
    unfold act
    rw [show top x.1 (acts l (0, [])) = (zp (acts l (0, [])).1, (acts l (0, [])).2) from top_free hf]
    have hnp : ¬ Pw (mul x.2 (zp (acts l (0, [])).1)) := fun hp => h.head (hp.of_right (hr x (List.mem_cons_self ..)))
    unfold push
    rw [if_neg hnp]
    refine ⟨by simp [h1], fun y hy => ?_⟩
    cases hy
    exact ⟨x, rfl, rfl⟩
end Am
end Go.Proofs.Ytfaagbmaekoogaa
namespace Go.Proofs.Ytfaagbmaekoogaa
open Word

namespace Dn
/-- Groups of one and two handles; their relators; the words of their letters. -/
def Gr (g : Int) : Prop := 1 ≤ g ∧ g ≤ 2
instance (g : Int) : Decidable (Gr g) := by unfold Gr; exact inferInstance
def rel (g : Int) : List Int := if g = 1 then [1, 2, -1, -2] else if g = 2 then [1, 2, -1, -2, 3, 4, -3, -4] else []
def Lets (g : Int) (l : List Int) : Prop := ∀ x ∈ l, (x.natAbs : Int) ≤ 2 * g
instance (g : Int) (l : List Int) : Decidable (Lets g l) := by unfold Lets; exact inferInstance
def Fit (g : Int) (l : List Int) : Prop := Gr g ∧ IsW l ∧ Lets g l
instance (g : Int) (l : List Int) : Decidable (Fit g l) := by unfold Fit; exact inferInstance
theorem gr_cases {g : Int} (h : Gr g) : g = 1 ∨ g = 2 := by unfold Gr at h; omega
theorem rel_not {g : Int} (h : ¬ Gr g) : rel g = [] := by
  unfold Gr at h; unfold rel; rw [if_neg (by omega), if_neg (by omega)]
theorem rel_len {g : Int} (h : Gr g) : ((rel g).length : Int) = 4 * g := by rcases gr_cases h with rfl | rfl <;> decide
theorem rel_w (g : Int) : IsW (rel g) := by
  by_cases h : Gr g
  · rcases gr_cases h with rfl | rfl <;> decide
  · rw [rel_not h]; decide
theorem rel_letters {g : Int} (h : Gr g) : ∀ x ∈ rel g, Letter x ∧ (x.natAbs : Int) ≤ 2 * g := by rcases gr_cases h with rfl | rfl <;> decide
theorem rel_len8 (g : Int) : (rel g).length ≤ 8 := by
  by_cases h : Gr g
  · rcases gr_cases h with rfl | rfl <;> decide
  · rw [rel_not h]; decide
/-- How many letters two words have in common from the first one on. -/
def lcp : List Int → List Int → Nat
  | x :: v, y :: r => if x = y then lcp v r + 1 else 0
  | _, _ => 0
theorem lcp_le_left : ∀ (v r : List Int), lcp v r ≤ v.length
  | [], _ => by simp [lcp]
  | _ :: _, [] => by simp [lcp]
  | x :: v, y :: r => by
    unfold lcp
    split
    · have := lcp_le_left v r; simp only [List.length_cons]; omega
    · omega
theorem lcp_le_right : ∀ (v r : List Int), lcp v r ≤ r.length
  | [], _ => by simp [lcp]
  | _ :: _, [] => by simp [lcp]
  | x :: v, y :: r => by
    unfold lcp
    split
    · have := lcp_le_right v r; simp only [List.length_cons]; omega
    · omega
theorem lcp_take : ∀ (v r : List Int), v.take (lcp v r) = r.take (lcp v r)
  | [], _ => by simp [lcp]
  | _ :: _, [] => by simp [lcp]
  | x :: v, y :: r => by
    unfold lcp
    split
    · rename_i h; subst h; simp only [List.take_succ_cons]; rw [lcp_take v r]
    · rfl
/-- Up to n they agree. -/
def Agree (v r : List Int) (n : Nat) : Prop := n ≤ v.length ∧ n ≤ r.length ∧ ∀ j, j < n → v[j]? = r[j]?
theorem Agree.zero (v r : List Int) : Agree v r 0 := ⟨Nat.zero_le _, Nat.zero_le _, fun j h => absurd h (by omega)⟩
theorem Agree.step {v r : List Int} {n : Nat} (h : Agree v r n) {x : Int} (hv : v[n]? = some x) (hr : r[n]? = some x) : Agree v r (n + 1) := by
  obtain ⟨h1, h2, h3⟩ := h
  refine ⟨(List.getElem?_eq_some_iff.1 hv).1, (List.getElem?_eq_some_iff.1 hr).1, fun j hj => ?_⟩
  by_cases e : j = n
  · subst e; rw [hv, hr]
  · exact h3 j (by omega)
theorem Agree.lcp : ∀ {v r : List Int} {n : Nat}, Agree v r n → (n = v.length ∨ n = r.length ∨ v[n]? ≠ r[n]?) → n = lcp v r
  | [], r, n, ⟨h1, _, _⟩, _ => by simp at h1; simp [Dn.lcp, h1]
  | x :: v, [], n, ⟨_, h1, _⟩, _ => by simp at h1; simp [Dn.lcp, h1]
  | x :: v, y :: r, 0, _, h => by
    unfold Dn.lcp
    rcases h with h | h | h
    · simp at h
    · simp at h
    · rw [if_neg (fun e => h (by simp [e]))]
  | x :: v, y :: r, n + 1, ⟨h1, h2, h3⟩, h => by
    have e : x = y := by simpa using h3 0 (by omega)
    unfold Dn.lcp
    rw [if_pos e]
    have := Agree.lcp (v := v) (r := r) (n := n) ⟨by simpa using h1, by simpa using h2, fun j hj => by simpa using h3 (j + 1) (by omega)⟩ (by simpa using h)
    omega
/-- The better of what was found and of r. -/
def pick (v : List Int) (p : Nat × List Int) (r : List Int) : Nat × List Int := if p.1 < lcp v r then (lcp v r, r) else p
def cand (g : Int) (t : Nat) : List Int := turn (if 4 * g ≤ (t : Int) then inv (rel g) else rel g) t
def bestTo (g : Int) (v : List Int) (t : Nat) : Nat × List Int := ((List.range t).map (cand g)).foldl (pick v) (0, [])
theorem bestTo_zero (g : Int) (v : List Int) : bestTo g v 0 = (0, []) := rfl
theorem bestTo_succ (g : Int) (v : List Int) (t : Nat) : bestTo g v (t + 1) = pick v (bestTo g v t) (cand g t) := by
  unfold bestTo; rw [List.range_succ, List.map_append, List.foldl_append]; rfl
theorem pick_le (v : List Int) {p : Nat × List Int} (r : List Int) (h : p.1 ≤ v.length ∧ p.1 ≤ p.2.length) : (pick v p r).1 ≤ v.length ∧ (pick v p r).1 ≤ (pick v p r).2.length := by
  unfold pick; split
  · exact ⟨lcp_le_left v r, lcp_le_right v r⟩
  · exact h
theorem fold_le (v : List Int) (L : List (List Int)) : ∀ {p : Nat × List Int}, (p.1 ≤ v.length ∧ p.1 ≤ p.2.length) → (L.foldl (pick v) p).1 ≤ v.length ∧ (L.foldl (pick v) p).1 ≤ (L.foldl (pick v) p).2.length := by
  induction L with
  | nil => intro p h; exact h
  | cons r L ih => intro p h; exact ih (pick_le v r h)
theorem bestTo_le (g : Int) (v : List Int) (t : Nat) : (bestTo g v t).1 ≤ v.length ∧ (bestTo g v t).1 ≤ (bestTo g v t).2.length :=
  fold_le v _ ⟨Nat.zero_le _, Nat.zero_le _⟩
theorem fold_mem (v : List Int) (L : List (List Int)) : ∀ {p : Nat × List Int}, p.2 = [] ∨ p.2 ∈ L → (L.foldl (pick v) p).2 = [] ∨ (L.foldl (pick v) p).2 ∈ L := by
  have key : ∀ (L M : List (List Int)), (∀ r ∈ L, r ∈ M) → ∀ {p : Nat × List Int}, p.2 = [] ∨ p.2 ∈ M → (L.foldl (pick v) p).2 = [] ∨ (L.foldl (pick v) p).2 ∈ M := by
    intro L
    induction L with
    | nil => intro M _ p h; exact h
    | cons r L ih =>
      intro M hM p h
      refine ih M (fun s hs => hM s (List.mem_cons_of_mem _ hs)) ?_
      unfold pick; split
      · exact Or.inr (hM r (List.mem_cons_self ..))
      · exact h
  intro p h
  exact key L L (fun _ h => h) h
theorem bestTo_mem (g : Int) (v : List Int) (t : Nat) : (bestTo g v t).2 = [] ∨ ∃ k, k < t ∧ (bestTo g v t).2 = cand g k := by
  rcases fold_mem v ((List.range t).map (cand g)) (p := (0, [])) (Or.inl rfl) with h | h
  · exact Or.inl h
  · obtain ⟨k, hk, e⟩ := List.mem_map.1 h
    exact Or.inr ⟨k, List.mem_range.1 hk, e.symm⟩
theorem inv_letters {p : Int → Prop} (hn : ∀ x, p x → p (-x)) {l : List Int} (h : ∀ x ∈ l, p x) : ∀ x ∈ inv l, p x := by
  intro x hx
  unfold inv at hx
  rw [List.mem_reverse, List.mem_map] at hx
  obtain ⟨y, hy, rfl⟩ := hx
  exact hn y (h y hy)
def Let (g : Int) (x : Int) : Prop := Letter x ∧ (x.natAbs : Int) ≤ 2 * g
theorem let_neg {g x : Int} (h : Let g x) : Let g (-x) := by
  obtain ⟨⟨h0, h1, h2⟩, h3⟩ := h
  exact ⟨⟨by omega, by omega, by omega⟩, by omega⟩
theorem cand_letters {g : Int} (h : Gr g) (t : Nat) : ∀ x ∈ cand g t, Let g x := by
  intro x hx
  unfold cand at hx
  have := turn_mem hx
  split at this
  · exact inv_letters (p := Let g) (fun _ => let_neg) (rel_letters h) x this
  · exact rel_letters h x this
theorem cand_len (g : Int) (t : Nat) : (cand g t).length = (rel g).length := by
  unfold cand; rw [turn_len]; split
  · rw [inv_len]
  · rfl
/-- One place: the word with the part there replaced, if the part is long enough. -/
def out (g : Int) (w : List Int) (i : Nat) (p : Nat × List Int) : List Int := red (w.take i ++ (inv (p.2.drop p.1) ++ w.drop (i + p.1)))
def stepAt (g : Int) (w : List Int) (i : Nat) : Option (List Int) :=
  if 2 * g < ((bestTo g (w.drop i) (8 * g).toNat).1 : Int) then some (out g w i (bestTo g (w.drop i) (8 * g).toNat)) else none
def step (g : Int) (w : List Int) : Option (List Int) := (List.range w.length).findSome? (stepAt g w)
theorem step_at {g : Int} {w r : List Int} {i : Nat} (hi : i < w.length) (h : stepAt g w i = some r) (hno : ∀ j, j < i → stepAt g w j = none) : step g w = some r := by
  unfold step
  rw [show w.length = i + (w.length - i) from by omega, List.range_add, List.findSome?_append, List.findSome?_eq_none_iff.2 (fun j hj => hno j (List.mem_range.1 hj))]
  rw [show w.length - i = (w.length - i - 1) + 1 from by omega, List.range_succ_eq_map]
  simp [h]
theorem step_no {g : Int} {w : List Int} (hno : ∀ j, j < w.length → stepAt g w j = none) : step g w = none := by
  unfold step
  exact List.findSome?_eq_none_iff.2 (fun j hj => hno j (List.mem_range.1 hj))
theorem step_some {g : Int} {w r : List Int} (h : step g w = some r) : ∃ i, i < w.length ∧ stepAt g w i = some r := by
  unfold step at h
  obtain ⟨i, hi, e⟩ := List.exists_of_findSome?_eq_some h
  exact ⟨i, List.mem_range.1 hi, e⟩
theorem step_none {g : Int} {w : List Int} (h : step g w = none) {i : Nat} (hi : i < w.length) : stepAt g w i = none := by
  unfold step at h
  exact List.findSome?_eq_none_iff.1 h i (List.mem_range.2 hi)
theorem out_raw {g : Int} (hg : Gr g) {w : List Int} {i : Nat} (hi : i ≤ w.length) (h : 2 * g < ((bestTo g (w.drop i) (8 * g).toNat).1 : Int)) :
    (w.take i ++ (inv ((bestTo g (w.drop i) (8 * g).toNat).2.drop (bestTo g (w.drop i) (8 * g).toNat).1) ++ w.drop (i + (bestTo g (w.drop i) (8 * g).toNat).1))).length < w.length := by
  have hle := bestTo_le g (w.drop i) (8 * g).toNat
  have hmem := bestTo_mem g (w.drop i) (8 * g).toNat
  generalize bestTo g (w.drop i) (8 * g).toNat = p at *
  have hl : (p.2.length : Int) ≤ 4 * g := by
    rcases hmem with e | ⟨k, _, e⟩
    · rw [e]; unfold Gr at hg; simp; omega
    · rw [e, cand_len, rel_len hg]; omega
  rw [List.length_drop] at hle
  simp only [List.length_append, List.length_take, List.length_drop, inv_len]
  unfold Gr at hg
  omega
theorem stepAt_len {g : Int} (hg : Gr g) {w r : List Int} {i : Nat} (hi : i ≤ w.length) (h : stepAt g w i = some r) : r.length < w.length := by
  unfold stepAt at h
  split at h
  · rename_i hb
    cases h
    have := out_raw hg hi hb
    have := red_len (w.take i ++ (inv ((bestTo g (w.drop i) (8 * g).toNat).2.drop (bestTo g (w.drop i) (8 * g).toNat).1) ++ w.drop (i + (bestTo g (w.drop i) (8 * g).toNat).1)))
    unfold out; omega
  · cases h
theorem step_len {g : Int} (hg : Gr g) {w r : List Int} (h : step g w = some r) : r.length < w.length := by
  obtain ⟨i, hi, e⟩ := step_some h
  exact stepAt_len hg (by omega) e
theorem out_letters {g : Int} (hg : Gr g) {w : List Int} (hw : ∀ x ∈ w, Let g x) (i : Nat) : ∀ x ∈ w.take i ++ (inv ((bestTo g (w.drop i) (8 * g).toNat).2.drop (bestTo g (w.drop i) (8 * g).toNat).1) ++ w.drop (i + (bestTo g (w.drop i) (8 * g).toNat).1)), Let g x := by
  have hmem := bestTo_mem g (w.drop i) (8 * g).toNat
  generalize bestTo g (w.drop i) (8 * g).toNat = p at *
  intro x hx
  rcases List.mem_append.1 hx with h | h
  · exact hw x (List.mem_of_mem_take h)
  · rcases List.mem_append.1 h with h | h
    · refine inv_letters (p := Let g) (fun _ => let_neg) (fun y hy => ?_) x h
      have hy := List.mem_of_mem_drop hy
      rcases hmem with e | ⟨k, _, e⟩
      · rw [e] at hy; cases hy
      · rw [e] at hy; exact cand_letters hg k y hy
    · exact hw x (List.mem_of_mem_drop h)
theorem step_letters {g : Int} (hg : Gr g) {w r : List Int} (hw : ∀ x ∈ w, Let g x) (h : step g w = some r) : ∀ x ∈ r, Let g x := by
  obtain ⟨i, hi, e⟩ := step_some h
  unfold stepAt at e
  split at e
  · cases e
    exact red_mem (out_letters hg hw i)
  · cases e
theorem step_red {g : Int} {w r : List Int} (h : step g w = some r) : red r = r := by
  obtain ⟨i, hi, e⟩ := step_some h
  unfold stepAt at e
  split at e
  · cases e
    exact Am.red_red _
  · cases e
/-- As many steps as there are. -/
def dehnN (g : Int) : Nat → List Int → List Int
  | 0, w => w
  | n + 1, w => match step g w with
    | some r => dehnN g n r
    | none => w
theorem dehnN_none {g : Int} {w : List Int} (h : step g w = none) : ∀ n, dehnN g n w = w
  | 0 => rfl
  | n + 1 => by unfold dehnN; rw [h]
theorem dehnN_some {g : Int} {w r : List Int} (h : step g w = some r) (n : Nat) : dehnN g (n + 1) w = dehnN g n r := by
  show (match step g w with | some r => dehnN g n r | none => w) = _
  rw [h]
theorem dehnN_more {g : Int} (hg : Gr g) : ∀ (n m : Nat) (w : List Int), w.length ≤ n → w.length ≤ m → dehnN g n w = dehnN g m w := by
  intro n
  induction n with
  | zero =>
    intro m w hn _
    obtain rfl := List.eq_nil_of_length_eq_zero (by omega : w.length = 0)
    exact (dehnN_none rfl m).symm
  | succ n ih =>
    intro m w hn hm
    cases h : step g w with
    | none => rw [dehnN_none h, dehnN_none h]
    | some r =>
      have := step_len hg h
      cases m with
      | zero => omega
      | succ m => rw [dehnN_some h, dehnN_some h]; exact ih m r (by omega) (by omega)
def dehn (g : Int) (w : List Int) : List Int := dehnN g w.length w
theorem dehn_none {g : Int} {w : List Int} (h : step g w = none) : dehn g w = w := dehnN_none h _
theorem dehn_some {g : Int} (hg : Gr g) {w r : List Int} (h : step g w = some r) : dehn g w = dehn g r := by
  have hl := step_len hg h
  unfold dehn
  rw [show w.length = (w.length - 1) + 1 from by omega, dehnN_some h]
  exact dehnN_more hg _ _ r (by omega) (Nat.le_refl _)
theorem dehn_len {g : Int} (hg : Gr g) : ∀ (n : Nat) (w : List Int), w.length ≤ n → (dehn g w).length ≤ w.length := by
  intro n
  induction n with
  | zero => intro w hn; rw [dehn_none (step_no fun j hj => by omega)]; exact Nat.le_refl _
  | succ n ih =>
    intro w hn
    cases h : step g w with
    | none => rw [dehn_none h]; exact Nat.le_refl _
    | some r =>
      have hl := step_len hg h
      rw [dehn_some hg h]
      have := ih r (by omega); omega
/-- The sum of the letters of one kind. -/
def wt (j : Nat) (x : Int) : Int := if x = (j : Int) + 1 then 1 else if x = -((j : Int) + 1) then -1 else 0
def tot (j : Nat) (l : List Int) : Int := (l.map (wt j)).sum
theorem wt_neg (j : Nat) (x : Int) : wt j (-x) = - wt j x := by
  unfold wt
  by_cases h1 : x = (j : Int) + 1
  · rw [if_neg (by omega), if_pos (by omega), if_pos h1]
  · by_cases h2 : x = -((j : Int) + 1)
    · rw [if_pos (by omega), if_neg h1, if_pos h2]; rfl
    · rw [if_neg (by omega), if_neg (by omega), if_neg h1, if_neg h2]; rfl
theorem tot_append (j : Nat) (a b : List Int) : tot j (a ++ b) = tot j a + tot j b := by simp [tot]
theorem tot_one (j : Nat) (x : Int) : tot j [x] = wt j x := by simp [tot]
theorem tot_cons (j : Nat) (x : Int) (l : List Int) : tot j (x :: l) = wt j x + tot j l := by simp [tot]
theorem tot_take {l : List Int} {i : Nat} (h : i < l.length) (j : Nat) : tot j (l.take (i + 1)) = tot j (l.take i) + wt j l[i] := by
  rw [List.take_succ_eq_append_getElem h, tot_append, tot_one]
theorem tot_inv (j : Nat) (l : List Int) : tot j (inv l) = - tot j l := by
  induction l with
  | nil => rfl
  | cons x l ih => rw [inv_cons, tot_append, ih, tot_one, wt_neg, tot_cons]; omega
theorem tot_bound (j : Nat) (l : List Int) : -(l.length : Int) ≤ tot j l ∧ tot j l ≤ l.length := by
  induction l with
  | nil => simp [tot]
  | cons x l ih =>
    rw [tot_cons]
    have : -1 ≤ wt j x ∧ wt j x ≤ 1 := by unfold wt; split <;> (try split) <;> omega
    simp only [List.length_cons]; omega
theorem tot_far {g : Int} {l : List Int} (h : Lets g l) {j : Nat} (hj : 2 * g ≤ (j : Int)) : tot j l = 0 := by
  induction l with
  | nil => rfl
  | cons x l ih =>
    rw [tot_cons, ih (fun y hy => h y (List.mem_cons_of_mem _ hy))]
    have := h x (List.mem_cons_self ..)
    have : wt j x = 0 := by unfold wt; rw [if_neg (by omega), if_neg (by omega)]
    omega
theorem sumPut_at {s : List Int} (hs : s.length = 8) {x : Int} (hx : Letter x) {j : Nat} (hj : j < 8) : (sumPut s x).getD j 0 = s.getD j 0 + wt j x := by
  obtain ⟨h0, h1, h2⟩ := hx
  unfold sumPut wt
  by_cases hp : 0 < x
  · rw [if_pos hp]
    by_cases he : (x - 1).toNat = j
    · rw [if_pos (by omega), List.getD_eq_getElem?_getD, List.getElem?_set, if_pos he, if_pos (by omega), he]; rfl
    · rw [if_neg (by omega), if_neg (by omega), List.getD_eq_getElem?_getD, List.getElem?_set, if_neg he, List.getD_eq_getElem?_getD]; omega
  · rw [if_neg hp]
    by_cases he : (-x - 1).toNat = j
    · rw [if_neg (by omega), if_pos (by omega), List.getD_eq_getElem?_getD, List.getElem?_set, if_pos he, if_pos (by omega), he]; rfl
    · rw [if_neg (by omega), if_neg (by omega), List.getD_eq_getElem?_getD, List.getElem?_set, if_neg he, List.getD_eq_getElem?_getD]; omega
theorem sums_at {l : List Int} (hl : ∀ x ∈ l, Letter x) {j : Nat} (hj : j < 8) : (sums l).getD j 0 = tot j l := by
  have key : ∀ (m s : List Int), (∀ x ∈ m, Letter x) → s.length = 8 → (m.foldl sumPut s).getD j 0 = s.getD j 0 + tot j m := by
    intro m
    induction m with
    | nil => intro s _ _; simp [tot]
    | cons x m ih =>
      intro s hm hs
      rw [List.foldl_cons, ih _ (fun y hy => hm y (List.mem_cons_of_mem _ hy)) (by rw [sumPut_len, hs]), sumPut_at hs (hm x (List.mem_cons_self ..)) hj, tot_cons]; omega
  have := key l (List.replicate 8 0) hl (by simp)
  rw [sums, this]
  have h0 : (List.replicate 8 (0 : Int)).getD j 0 = 0 := by
    rw [List.getD_eq_getElem?_getD, List.getElem?_replicate]; split <;> rfl
  rw [h0]; omega
theorem sums_list {l : List Int} (hl : ∀ x ∈ l, Letter x) : sums l = (List.range 8).map fun j => tot j l := by
  apply List.ext_getElem
  · rw [sums_len]; simp
  · intro j h1 h2
    have hj : j < 8 := by rw [sums_len] at h1; exact h1
    have := sums_at hl hj
    rw [List.getD_eq_getElem?_getD, List.getElem?_eq_getElem h1] at this
    simpa using this
/-- Trivial words. -/
def Triv (g : Int) (l : List Int) : Prop := if g = 2 then dehn g (red l) = [] else tot 0 l = 0 ∧ tot 1 l = 0
instance (g : Int) (l : List Int) : Decidable (Triv g l) := by unfold Triv; exact inferInstance
/-- The answers. -/
def stepW (g : Int) (l : List Int) : Option (List Int) := if Fit g l then step g (red l) else none
def dehnW (g : Int) (l : List Int) : List Int := if Fit g l then dehn g (red l) else []
def TrivW (g : Int) (l : List Int) : Prop := Fit g l ∧ Triv g l
instance (g : Int) (l : List Int) : Decidable (TrivW g l) := by unfold TrivW; exact inferInstance
def EqualW (g : Int) (v w : List Int) : Prop := Fit g v ∧ Fit g w ∧ v.length + w.length ≤ 24 ∧ Triv g (v ++ inv w)
instance (g : Int) (v w : List Int) : Decidable (EqualW g v w) := by unfold EqualW; exact inferInstance
def homW (g : Int) (l : List Int) : List Int := if Fit g l then (sums l).take (2 * g).toNat else []
def CommW (g : Int) (v w : List Int) : Prop := Fit g v ∧ Fit g w ∧ 2 * (v.length + w.length) ≤ 24 ∧ Triv g ((v ++ w) ++ inv (w ++ v))
instance (g : Int) (v w : List Int) : Decidable (CommW g v w) := by unfold CommW; exact inferInstance
theorem Fit.lets {g : Int} {l : List Int} (h : Fit g l) : ∀ x ∈ l, Let g x := fun x hx => ⟨h.2.1.1 x hx, h.2.2 x hx⟩
theorem Fit.mk {g : Int} {l : List Int} (hg : Gr g) (h : ∀ x ∈ l, Let g x) (hl : l.length ≤ 24) : Fit g l := ⟨hg, ⟨fun x hx => (h x hx).1, hl⟩, fun x hx => (h x hx).2⟩
theorem Fit.red {g : Int} {l : List Int} (h : Fit g l) : Fit g (red l) := Fit.mk h.1 (red_mem h.lets) (Nat.le_trans (red_len l) h.2.1.2)
theorem Fit.inv {g : Int} {l : List Int} (h : Fit g l) : Fit g (inv l) := Fit.mk h.1 (inv_letters (p := Let g) (fun _ => let_neg) h.lets) (by rw [inv_len]; exact h.2.1.2)
theorem fit_append {g : Int} {v w : List Int} : Fit g (v ++ w) ↔ Fit g v ∧ Fit g w ∧ v.length + w.length ≤ 24 := by
  constructor
  · intro h
    have hl := h.2.1.2
    rw [List.length_append] at hl
    exact ⟨Fit.mk h.1 (fun x hx => h.lets x (List.mem_append_left _ hx)) (by omega), Fit.mk h.1 (fun x hx => h.lets x (List.mem_append_right _ hx)) (by omega), hl⟩
  · rintro ⟨h1, h2, h3⟩
    refine Fit.mk h1.1 (fun x hx => ?_) (by rw [List.length_append]; exact h3)
    rcases List.mem_append.1 hx with h | h
    · exact h1.lets x h
    · exact h2.lets x h
/-- The two ways around on which a letter stands. -/
def around (g : Int) (x : Int) (back : Bool) : List Int := turn (if back then inv (rel g) else rel g) ((if back then inv (rel g) else rel g).idxOf x : Nat)
theorem lcp_head {x y : Int} {v r : List Int} (h : x ≠ y) : lcp (x :: v) (y :: r) = 0 := by unfold lcp; rw [if_neg h]
theorem pick_zero {v : List Int} {p : Nat × List Int} {r : List Int} (h : lcp v r = 0) : pick v p r = p := by unfold pick; rw [if_neg (by omega)]
theorem fold_filter (x : Int) (v : List Int) (L : List (List Int)) : ∀ p, L.foldl (pick (x :: v)) p = (L.filter fun r => r.head? == some x).foldl (pick (x :: v)) p := by
  induction L with
  | nil => intro p; rfl
  | cons r L ih =>
    intro p
    rw [List.foldl_cons, ih, List.filter_cons]
    by_cases h : r.head? = some x
    · rw [if_pos (by simp [h])]; rfl
    · rw [if_neg (by simpa using h)]
      congr 1
      refine pick_zero ?_
      cases r with
      | nil => rfl
      | cons y r => exact lcp_head (fun e => h (by simp [e]))
theorem around_best {g x : Int} (hg : Gr g) (hx : Let g x) (v : List Int) : bestTo g (x :: v) (8 * g).toNat = pick (x :: v) (pick (x :: v) (0, []) (around g x false)) (around g x true) := by
  unfold bestTo
  rw [fold_filter]
  have : ((List.range (8 * g).toNat).map (cand g)).filter (fun r => r.head? == some x) = [around g x false, around g x true] := by
    obtain ⟨⟨h0, _, _⟩, h3⟩ := hx
    rcases gr_cases hg with rfl | rfl
    · have : x = -2 ∨ x = -1 ∨ x = 1 ∨ x = 2 := by omega
      rcases this with rfl | rfl | rfl | rfl <;> decide
    · have : x = -4 ∨ x = -3 ∨ x = -2 ∨ x = -1 ∨ x = 1 ∨ x = 2 ∨ x = 3 ∨ x = 4 := by omega
      rcases this with rfl | rfl | rfl | rfl | rfl | rfl | rfl | rfl <;> decide
  rw [this]; rfl
end Dn
end Go.Proofs.Ytfaagbmaekoogaa
namespace Go.Proofs.Ytfaagbmaekoogaa
open Word

namespace Am
/-- The letters of the group with two handles: their sides, and what they are there. -/
def side (x : Int) : Bool := decide (2 < x ∨ x < -2)
def ren (x : Int) : Int := if 2 < x then 5 - x else if x < -2 then -5 - x else x
def unren (s : Bool) (y : Int) : Int := if s then (if 0 < y then 5 - y else -5 - y) else y
def Lt (x : Int) : Prop := x ≠ 0 ∧ -4 ≤ x ∧ x ≤ 4
theorem unren_ren {x : Int} (h : Lt x) : unren (side x) (ren x) = x := by
  obtain ⟨h0, h1, h2⟩ := h
  have : x = -4 ∨ x = -3 ∨ x = -2 ∨ x = -1 ∨ x = 1 ∨ x = 2 ∨ x = 3 ∨ x = 4 := by omega
  rcases this with rfl | rfl | rfl | rfl | rfl | rfl | rfl | rfl <;> decide
theorem side_neg (x : Int) : side (-x) = side x := by
  unfold side; apply decide_eq_decide.2; omega
theorem ren_neg (x : Int) : ren (-x) = -ren x := by
  unfold ren; split <;> split <;> (try split) <;> (try split) <;> omega
theorem ren_back {x y : Int} (hx : Lt x) (hy : Lt y) (hs : side x = side y) (h : ren y = -ren x) : y = -x := by
  rw [← unren_ren hy, h, ← ren_neg, ← hs, ← side_neg, unren_ren]
  obtain ⟨h0, h1, h2⟩ := hx
  exact ⟨by omega, by omega, by omega⟩
noncomputable def L (x : Int) (n : St) : St := act (side x) [ren x] n
noncomputable def actW (w : List Int) (n : St) : St := w.foldr L n
theorem actW_alt {w : List Int} {n : St} (h : Alt n.2) : Alt (actW w n).2 := by
  induction w with
  | nil => exact h
  | cons x w ih => exact act_alt ih
theorem actW_append (u v : List Int) (n : St) : actW (u ++ v) n = actW u (actW v n) := by
  unfold actW; rw [List.foldr_append]
theorem L_L {x : Int} {n : St} (h : Alt n.2) : L x (L (-x) n) = n := by
  unfold L
  rw [side_neg, act_act h, ren_neg]
  show act _ (red [ren x, -ren x]) n = n
  rw [red_pair, act_one h]
/-- One side's letters act as their word there. -/
theorem actW_side {s : Bool} {u : List Int} (hu : ∀ x ∈ u, side x = s) {n : St} (h : Alt n.2) : actW u n = act s (red (u.map ren)) n := by
  induction u with
  | nil => exact (act_one h).symm
  | cons x u ih =>
    show L x (actW u n) = _
    rw [ih (fun y hy => hu y (List.mem_cons_of_mem _ hy))]
    unfold L
    rw [hu x (List.mem_cons_self ..), act_act h, mul, red_right]
    rfl
theorem ren_rd {s : Bool} {u : List Int} (hu : ∀ x ∈ u, side x = s) (hl : ∀ x ∈ u, Lt x) (h : Rd u) : Rd (u.map ren) := by
  induction u with
  | nil => trivial
  | cons x u ih =>
    have := ih (fun y hy => hu y (List.mem_cons_of_mem _ hy)) (fun y hy => hl y (List.mem_cons_of_mem _ hy)) h.tail
    cases u with
    | nil => trivial
    | cons y u =>
      refine ⟨fun e => h.1 (ren_back (hl x (by simp)) (hl y (by simp)) ((hu x (by simp)).trans (hu y (by simp)).symm) e), this⟩
theorem unmap {s : Bool} {u : List Int} (hu : ∀ x ∈ u, side x = s) (hl : ∀ x ∈ u, Lt x) : (u.map ren).map (unren s) = u := by
  induction u with
  | nil => rfl
  | cons x u ih =>
    have := ih (fun y hy => hu y (List.mem_cons_of_mem _ hy)) (fun y hy => hl y (List.mem_cons_of_mem _ hy))
    rw [List.map_cons, List.map_cons, this]
    congr 1
    rw [← hu x (List.mem_cons_self ..)]
    exact unren_ren (hl x (List.mem_cons_self ..))
theorem P_snoc (n : Nat) : P (n + 1) = P n ++ Z := by
  induction n with
  | zero => rfl
  | succ n ih => exact congrArg (fun l => 1 :: 2 :: -1 :: -2 :: l) ih
theorem M_snoc (n : Nat) : M (n + 1) = M n ++ Zi := by
  induction n with
  | zero => rfl
  | succ n ih => exact congrArg (fun l => 2 :: 1 :: -2 :: -1 :: l) ih
theorem P_at : ∀ (m : Nat) (u t : List Int), P m = u ++ 1 :: t → Pw u
  | 0, [], t, h => by cases h
  | 0, _ :: _, t, h => by cases h
  | m + 1, [], t, h => ⟨0, rfl⟩
  | m + 1, [a], t, h => by simp [P] at h
  | m + 1, [a, b], t, h => by simp [P] at h
  | m + 1, [a, b, c], t, h => by simp [P] at h
  | m + 1, a :: b :: c :: d :: u, t, h => by
    simp only [P, List.cons_append, List.cons.injEq] at h
    obtain ⟨rfl, rfl, rfl, rfl, h⟩ := h
    obtain ⟨k, hk⟩ := P_at m u t h
    refine ⟨1 + k, ?_⟩
    rw [← zp_add, ← hk]
    have : Rd (1 :: 2 :: -1 :: -2 :: u) := Rd.left (v := 1 :: t) (by
      show Rd (1 :: 2 :: -1 :: -2 :: (u ++ 1 :: t))
      rw [← h]; exact P_rd (m + 1))
    exact (red_of_rd this).symm
theorem P_at2 : ∀ (m : Nat) (u t : List Int), P m ≠ u ++ 2 :: 1 :: t
  | 0, [], t, h => by cases h
  | 0, _ :: _, t, h => by cases h
  | m + 1, [], t, h => by simp [P] at h
  | m + 1, [a], t, h => by simp [P] at h
  | m + 1, [a, b], t, h => by simp [P] at h
  | m + 1, [a, b, c], t, h => by simp [P] at h
  | m + 1, a :: b :: c :: d :: u, t, h => by
    simp only [P, List.cons_append, List.cons.injEq] at h
    exact P_at2 m u t h.2.2.2.2
theorem M_at : ∀ (m : Nat) (u t : List Int), M m = u ++ 2 :: t → Pw u
  | 0, [], t, h => by cases h
  | 0, _ :: _, t, h => by cases h
  | m + 1, [], t, h => ⟨0, rfl⟩
  | m + 1, [a], t, h => by simp [M] at h
  | m + 1, [a, b], t, h => by simp [M] at h
  | m + 1, [a, b, c], t, h => by simp [M] at h
  | m + 1, a :: b :: c :: d :: u, t, h => by
    simp only [M, List.cons_append, List.cons.injEq] at h
    obtain ⟨rfl, rfl, rfl, rfl, h⟩ := h
    obtain ⟨k, hk⟩ := M_at m u t h
    refine ⟨-1 + k, ?_⟩
    rw [← zp_add, ← hk]
    have : Rd (2 :: 1 :: -2 :: -1 :: u) := Rd.left (v := 2 :: t) (by
      show Rd (2 :: 1 :: -2 :: -1 :: (u ++ 2 :: t))
      rw [← h]; exact M_rd (m + 1))
    exact (red_of_rd this).symm
theorem M_at2 : ∀ (m : Nat) (u t : List Int), M m ≠ u ++ 1 :: 2 :: t
  | 0, [], t, h => by cases h
  | 0, _ :: _, t, h => by cases h
  | m + 1, [], t, h => by simp [M] at h
  | m + 1, [a], t, h => by simp [M] at h
  | m + 1, [a, b], t, h => by simp [M] at h
  | m + 1, [a, b, c], t, h => by simp [M] at h
  | m + 1, a :: b :: c :: d :: u, t, h => by
    simp only [M, List.cons_append, List.cons.injEq] at h
    exact M_at2 m u t h.2.2.2.2
theorem zp_at {k : Int} (hk : k ≠ 0) {u r : List Int} (h : Pw (u ++ (zp k ++ r))) : Pw u := by
  obtain ⟨m, hm⟩ := h
  cases m with
  | ofNat m =>
    cases k with
    | ofNat k => cases k with
      | zero => exact absurd rfl hk
      | succ k => exact P_at m u _ hm.symm
    | negSucc k => exact absurd hm.symm (P_at2 m u _)
  | negSucc m =>
    cases k with
    | ofNat k => cases k with
      | zero => exact absurd rfl hk
      | succ k => exact absurd hm.symm (M_at2 (m + 1) u _)
    | negSucc k => exact M_at (m + 1) u _ hm.symm
/-- The parts of five letters that matter. -/
def pieces : List (List Int) := [[1, 2, -1, -2, 3], [4, 3, -4, -3, 2], [-4, 1, 2, -1, -2], [-1, 4, 3, -4, -3], [3, 4, -3, -4, 1], [2, 1, -2, -1, 4], [-2, 3, 4, -3, -4], [-3, 2, 1, -2, -1]]
def NoP (w : List Int) : Prop := ∀ p ∈ pieces, ∀ a b, w ≠ a ++ (p ++ b)
theorem NoP.right {u v : List Int} (h : NoP (u ++ v)) : NoP v := fun p hp a b e => h p hp (u ++ a) b (by rw [e, List.append_assoc])
theorem zp_succ {k : Int} (h : 0 < k) : ∃ n, zp k = P n ++ Z ∧ zp k = Z ++ P n := by
  cases k with
  | ofNat n => cases n with
    | zero => exact absurd h (by decide)
    | succ n => exact ⟨n, P_snoc n, rfl⟩
  | negSucc n => exact absurd h (by omega)
theorem zp_pred {k : Int} (h : k < 0) : ∃ n, zp k = M n ++ Zi ∧ zp k = Zi ++ M n := by
  cases k with
  | ofNat n => exact absurd h (by simp only [Int.ofNat_eq_natCast]; omega)
  | negSucc n => exact ⟨n, M_snoc n, rfl⟩
theorem side_ne {x y : Int} {s : Bool} (hx : side x = s) (hy : side y ≠ s) : side y = !s := by
  cases s <;> cases h : side y <;> simp_all
/-- Behind a power: no letter that takes of it. -/
theorem behind {u w : List Int} {s : Bool} {k : Int} {y : Int} (hu : ∀ x ∈ u, side x = s) (hl : ∀ x ∈ u, Lt x) (hk : u.map ren = zp k) (hw : w.head? = some y) (hy : Lt y) (hs : side y = !s) (h : NoP (u ++ w)) :
    (0 < k → ren y ≠ 2) ∧ (k < 0 → ren y ≠ 1) := by
  obtain ⟨t, rfl⟩ : ∃ t, w = y :: t := by
    cases w with
    | nil => cases hw
    | cons a t => cases hw; exact ⟨t, rfl⟩
  have hun := unmap hu hl
  rw [hk] at hun
  have hyy := unren_ren hy
  rw [hs] at hyy
  constructor
  · intro hk0 e
    obtain ⟨n, hn, _⟩ := zp_succ hk0
    rw [hn, List.map_append] at hun
    rw [e] at hyy
    cases s with
    | false => exact h [1, 2, -1, -2, 3] (by decide) (((P n).map (unren false))) t (by rw [← hun, ← hyy, List.append_assoc]; rfl)
    | true => exact h [4, 3, -4, -3, 2] (by decide) (((P n).map (unren true))) t (by rw [← hun, ← hyy, List.append_assoc]; rfl)
  · intro hk0 e
    obtain ⟨n, hn, _⟩ := zp_pred hk0
    rw [hn, List.map_append] at hun
    rw [e] at hyy
    cases s with
    | false => exact h [2, 1, -2, -1, 4] (by decide) (((M n).map (unren false))) t (by rw [← hun, ← hyy, List.append_assoc]; rfl)
    | true => exact h [3, 4, -3, -4, 1] (by decide) (((M n).map (unren true))) t (by rw [← hun, ← hyy, List.append_assoc]; rfl)
/-- Ahead of a power: likewise. -/
theorem ahead {u s1 w1 : List Int} {s : Bool} {k : Int} {y : Int} (hu : ∀ x ∈ s1, side x = s) (hl : ∀ x ∈ s1, Lt x) (hk : s1.map ren = zp k) (hw : u.getLast? = some y) (hy : Lt y) (hs : side y = !s) (h : NoP (u ++ (s1 ++ w1))) :
    (0 < k → ren y ≠ -1) ∧ (k < 0 → ren y ≠ -2) := by
  obtain ⟨t, rfl⟩ : ∃ t, u = t ++ [y] := by
    rcases snoc_cases u with rfl | ⟨t, a, rfl⟩
    · cases hw
    · simp at hw; exact ⟨t, by rw [hw]⟩
  have hun := unmap hu hl
  rw [hk] at hun
  have hyy := unren_ren hy
  rw [hs] at hyy
  constructor
  · intro hk0 e
    obtain ⟨n, _, hn⟩ := zp_succ hk0
    rw [hn, List.map_append] at hun
    rw [e] at hyy
    cases s with
    | false => exact h [-4, 1, 2, -1, -2] (by decide) t ((P n).map (unren false) ++ w1) (by rw [← hun, ← hyy]; simp; exact ⟨rfl, rfl⟩)
    | true => exact h [-1, 4, 3, -4, -3] (by decide) t ((P n).map (unren true) ++ w1) (by rw [← hun, ← hyy]; simp; exact ⟨rfl, rfl⟩)
  · intro hk0 e
    obtain ⟨n, _, hn⟩ := zp_pred hk0
    rw [hn, List.map_append] at hun
    rw [e] at hyy
    cases s with
    | false => exact h [-3, 2, 1, -2, -1] (by decide) t ((M n).map (unren false) ++ w1) (by rw [← hun, ← hyy]; simp; exact ⟨rfl, rfl⟩)
    | true => exact h [-2, 3, 4, -3, -4] (by decide) t ((M n).map (unren true) ++ w1) (by rw [← hun, ← hyy]; simp; exact ⟨rfl, rfl⟩)
theorem split_side : ∀ (w : List Int) (x : Int), w.head? = some x → ∃ u v, w = u ++ v ∧ u.head? = some x ∧ (∀ y ∈ u, side y = side x) ∧ ∀ y, v.head? = some y → side y = !side x := by
  intro w
  induction w with
  | nil => intro x h; cases h
  | cons a w ih =>
    intro x h
    cases h
    cases w with
    | nil => exact ⟨[a], [], rfl, rfl, by simp, fun y hy => by cases hy⟩
    | cons b w =>
      by_cases e : side b = side a
      · obtain ⟨u, v, h1, h2, h3, h4⟩ := ih b rfl
        refine ⟨a :: u, v, by rw [h1]; rfl, rfl, ?_, fun y hy => by rw [h4 y hy, e]⟩
        intro y hy
        rcases List.mem_cons.1 hy with rfl | hy
        · rfl
        · rw [h3 y hy, e]
      · refine ⟨[a], b :: w, rfl, rfl, by simp, fun y hy => ?_⟩
        cases hy
        cases h1 : side a <;> cases h2 : side b <;> simp_all
theorem zp_head {k : Int} (h : k ≠ 0) : (0 < k ∧ (zp k).head? = some 1 ∧ (zp k).getLast? = some (-2)) ∨ (k < 0 ∧ (zp k).head? = some 2 ∧ (zp k).getLast? = some (-1)) := by
  rcases (show 0 < k ∨ k < 0 by omega) with hk | hk
  · obtain ⟨n, h1, h2⟩ := zp_succ hk
    refine Or.inl ⟨hk, ?_, ?_⟩
    · rw [h2]; rfl
    · rw [h1]; simp [Z]
  · obtain ⟨n, h1, h2⟩ := zp_pred hk
    refine Or.inr ⟨hk, ?_, ?_⟩
    · rw [h2]; rfl
    · rw [h1]; simp [Zi]
/-- The word begins with a power. -/
def Fst (w : List Int) (x : Int) (k : Int) : Prop := ∃ s1 w1, w = s1 ++ w1 ∧ s1.map ren = zp k ∧ k ≠ 0 ∧ ∀ y ∈ s1, side y = side x
/-- A power as a whole. -/
def QA (w : List Int) : Prop := ∃ K k x, (∀ n : St, Alt n.2 → actW w n = (K + n.1, n.2)) ∧ w.head? = some x ∧ Fst w x k ∧ K ≠ 0 ∧ (0 < k ↔ 0 < K)
/-- Blocks. -/
def QB (w : List Int) : Prop := ∃ t B Bl x, Blocks ((t, B) :: Bl) ∧ (∀ y ∈ (t, B) :: Bl, Rd y.2) ∧ (∀ n : St, Alt n.2 → actW w n = acts ((t, B) :: Bl) n) ∧ w.head? = some x ∧ B.head? = some (ren x) ∧ (side x = t ∨ ∃ k r, k ≠ 0 ∧ B = zp k ++ r ∧ Fst w x k)
theorem Fst.head {w : List Int} {x k : Int} (h : Fst w x k) (hx : w.head? = some x) : (0 < k ∧ ren x = 1) ∨ (k < 0 ∧ ren x = 2) := by
  obtain ⟨s1, w1, rfl, h2, h3, h4⟩ := h
  cases s1 with
  | nil => rcases zp_head h3 with ⟨_, e, _⟩ | ⟨_, e, _⟩ <;> rw [← h2] at e <;> cases e
  | cons a s1 =>
    cases hx
    rcases zp_head h3 with ⟨hk, e, _⟩ | ⟨hk, e, _⟩
    · rw [← h2] at e; exact Or.inl ⟨hk, Option.some.inj e⟩
    · rw [← h2] at e; exact Or.inr ⟨hk, Option.some.inj e⟩
theorem map_last {u : List Int} {y : Int} (h : u.getLast? = some y) : (u.map ren).getLast? = some (ren y) := by
  rw [List.getLast?_map, h]; rfl
theorem map_last_of {u : List Int} {z : Int} (h : (u.map ren).getLast? = some z) : ∃ y, u.getLast? = some y ∧ ren y = z := by
  rw [List.getLast?_map] at h
  cases e : u.getLast? with
  | none => rw [e] at h; cases h
  | some y => rw [e] at h; cases h; exact ⟨y, rfl, rfl⟩
/-- A power ahead of a word: where it meets the word, nothing cancels. -/
theorem join_behind {u w B : List Int} {s : Bool} {k x : Int} (hu : ∀ x ∈ u, side x = s) (hl : ∀ x ∈ u, Lt x) (hk : u.map ren = zp k) (hk0 : k ≠ 0) (hw : w.head? = some x) (hx : Lt x) (hs : side x = !s) (h : NoP (u ++ w)) (hB : Rd B) (hBx : B.head? = some (ren x)) : Rd (zp k ++ B) := by
  refine (zp_rd k).join hB fun a b ha hb => ?_
  rw [hBx] at hb; cases hb
  obtain ⟨h1, h2⟩ := behind hu hl hk hw hx hs h
  rcases zp_head hk0 with ⟨hk, _, e⟩ | ⟨hk, _, e⟩
  · rw [e] at ha; cases ha; exact h1 hk
  · rw [e] at ha; cases ha; exact h2 hk
/-- A word ahead of a power: likewise. -/
theorem join_ahead {u w B : List Int} {s : Bool} {k x : Int} (hu : ∀ y ∈ u, side y = s) (hl : ∀ x ∈ u, Lt x) (hlw : ∀ x ∈ w, Lt x) (hr : Rd (u.map ren)) (hw : w.head? = some x) (hs : side x = !s) (hF : Fst w x k) (h : NoP (u ++ w)) (hB : Rd B) (hBx : B.head? = some (ren x)) : Rd (u.map ren ++ B) := by
  refine hr.join hB fun a b ha hb => ?_
  rw [hBx] at hb; cases hb
  obtain ⟨y, hy, rfl⟩ := map_last_of ha
  have hy1 : y ∈ u := List.mem_of_getLast? hy
  have hhead := hF.head hw
  obtain ⟨s1, w1, rfl, h2, h3, h4⟩ := hF
  obtain ⟨g1, g2⟩ := ahead (s := side x) h4 (fun z hz => hlw z (List.mem_append_left _ hz)) h2 hy (hl y hy1) (by rw [hu y hy1, hs]; simp) h
  rcases hhead with ⟨hk, e⟩ | ⟨hk, e⟩
  · rw [e]; have := g1 hk; omega
  · rw [e]; have := g2 hk; omega
theorem mul_of_rd {u v : List Int} (h : Rd (u ++ v)) : mul u v = u ++ v := red_of_rd h
theorem Fst.of {u w : List Int} {x k : Int} (hk : u.map ren = zp k) (hk0 : k ≠ 0) (hu : ∀ y ∈ u, side y = side x) : Fst (u ++ w) x k := ⟨u, w, rfl, hk, hk0, hu⟩
theorem head_map {u : List Int} {x : Int} (h : u.head? = some x) : (u.map ren).head? = some (ren x) := by
  cases u with
  | nil => cases h
  | cons a u => cases h; rfl
theorem head_app {u v : List Int} {x : Int} (h : u.head? = some x) : (u ++ v).head? = some x := by
  cases u with
  | nil => cases h
  | cons a u => cases h; rfl
theorem step_Q {u w : List Int} {x : Int} (hr : Rd (u ++ w)) (hl : ∀ y ∈ u ++ w, Lt y) (hp : NoP (u ++ w)) (hx : u.head? = some x) (hu : ∀ y ∈ u, side y = side x) (hv : ∀ y, w.head? = some y → side y = !side x) (hw : w = [] ∨ QA w ∨ QB w) : QA (u ++ w) ∨ QB (u ++ w) := by
  have hlu : ∀ y ∈ u, Lt y := fun y hy => hl y (List.mem_append_left _ hy)
  have hlw : ∀ y ∈ w, Lt y := fun y hy => hl y (List.mem_append_right _ hy)
  have hU : Rd (u.map ren) := ren_rd hu hlu hr.left
  have hact : ∀ n : St, Alt n.2 → actW (u ++ w) n = act (side x) (u.map ren) (actW w n) := fun n hn => by
    rw [actW_append, actW_side hu (actW_alt hn), red_of_rd hU]
  have hxx : (u ++ w).head? = some x := head_app hx
  by_cases hpw : Pw (u.map ren)
  · obtain ⟨k, hk⟩ := hpw
    have hk0 : k ≠ 0 := by
      rintro rfl
      have := head_map hx
      rw [hk] at this; cases this
    rcases hw with rfl | ⟨K, k', x', h1, h2, h3, h4, h5⟩ | ⟨t, B, Bl, x', h1, h2, h3, h4, h5, h6⟩
    · refine Or.inl ⟨k, k, x, fun n hn => ?_, hxx, Fst.of hk hk0 hu, hk0, Iff.rfl⟩
      rw [hact n hn, hk]; exact act_zp (actW_alt (w := []) hn)
    · have hx' : x' ∈ w := List.mem_of_head? h2
      have hb := behind hu hlu hk h2 (hlw x' hx') (hv x' h2) hp
      have hsg : 0 < k ↔ 0 < k' := by
        rcases h3.head h2 with ⟨e1, e2⟩ | ⟨e1, e2⟩
        · refine ⟨fun _ => e1, fun _ => ?_⟩
          rcases (show 0 < k ∨ k < 0 by omega) with g | g
          · exact g
          · exact absurd e2 (hb.2 g)
        · refine ⟨fun g => absurd e2 (hb.1 g), fun g => by omega⟩
      have hk'0 : k' ≠ 0 := by obtain ⟨_, _, _, _, g, _⟩ := h3; exact g
      refine Or.inl ⟨k + K, k, x, fun n hn => ?_, hxx, Fst.of hk hk0 hu, by omega, by omega⟩
      rw [hact n hn, hk, h1 n hn, act_zp (show Alt (K + n.1, n.2).2 from hn)]
      simp only [Int.add_assoc]
    · have hx' : x' ∈ w := List.mem_of_head? h4
      have hj := join_behind hu hlu hk hk0 h4 (hlw x' hx') (hv x' h4) hp (h2 _ (List.mem_cons_self ..)) h5
      have hnp : ¬ Pw (zp k ++ B) := fun e => h1.head (Pw.of_left (k := k) (h2 _ (List.mem_cons_self ..)) (by rw [mul_of_rd hj]; exact e))
      refine Or.inr ⟨t, zp k ++ B, Bl, x, Blocks.cons h1.tail hnp h1.free, ?_, fun n hn => ?_, hxx, ?_, Or.inr ⟨k, B, hk0, rfl, Fst.of hk hk0 hu⟩⟩
      · intro y hy
        rcases List.mem_cons.1 hy with rfl | hy
        · exact hj
        · exact h2 y (List.mem_cons_of_mem _ hy)
      · rw [hact n hn, hk, h3 n hn]
        have ha : Alt (acts Bl n).2 := acts_alt hn
        show act (side x) (zp k) (act t B (acts Bl n)) = act t (zp k ++ B) (acts Bl n)
        rw [act_zp (act_alt ha), ← act_zp (s := t) (act_alt ha), act_act ha, mul_of_rd hj]
      · rw [← hk]; exact head_app (head_map hx)
  · rcases hw with rfl | ⟨K, k', x', h1, h2, h3, h4, h5⟩ | ⟨t, B, Bl, x', h1, h2, h3, h4, h5, h6⟩
    · refine Or.inr ⟨side x, u.map ren, [], x, hpw, by simpa using hU, fun n hn => ?_, hxx, head_map hx, Or.inl rfl⟩
      rw [hact n hn]; rfl
    · have hBx : (zp K).head? = some (ren x') := by
        rcases h3.head h2 with ⟨e1, e2⟩ | ⟨e1, e2⟩
        · rcases zp_head h4 with ⟨_, e, _⟩ | ⟨_, e, _⟩
          · rw [e, e2]
          · omega
        · rcases zp_head h4 with ⟨_, e, _⟩ | ⟨_, e, _⟩
          · obtain ⟨_, _, _, _, g, _⟩ := h3; omega
          · rw [e, e2]
      have hj := join_ahead hu hlu hlw hU h2 (hv x' h2) h3 hp (zp_rd K) hBx
      have hnp : ¬ Pw (u.map ren ++ zp K) := fun e => hpw (Pw.of_right (k := K) hU (by rw [mul_of_rd hj]; exact e))
      refine Or.inr ⟨side x, u.map ren ++ zp K, [], x, hnp, by simpa using hj, fun n hn => ?_, hxx, head_app (head_map hx), Or.inl rfl⟩
      rw [hact n hn, h1 n hn, ← act_zp (s := side x) hn, act_act hn, mul_of_rd hj]; rfl
    · have hs := hv x' h4
      by_cases ht : side x = t
      · subst ht
        rcases h6 with h6 | ⟨k, r, hk0, hB, hF⟩
        · rw [hs] at h6; cases e : side x <;> rw [e] at h6 <;> cases h6
        · have hj := join_ahead hu hlu hlw hU h4 hs hF hp (h2 _ (List.mem_cons_self ..)) h5
          have hnp : ¬ Pw (u.map ren ++ B) := fun e => hpw (zp_at hk0 (by rw [hB] at e; exact e))
          refine Or.inr ⟨side x, u.map ren ++ B, Bl, x, Blocks.cons h1.tail hnp h1.free, ?_, fun n hn => ?_, hxx, head_app (head_map hx), Or.inl rfl⟩
          · intro y hy
            rcases List.mem_cons.1 hy with rfl | hy
            · exact hj
            · exact h2 y (List.mem_cons_of_mem _ hy)
          · rw [hact n hn, h3 n hn]
            have ha : Alt (acts Bl n).2 := acts_alt hn
            show act (side x) (u.map ren) (act (side x) B (acts Bl n)) = act (side x) (u.map ren ++ B) (acts Bl n)
            rw [act_act ha, mul_of_rd hj]
      · refine Or.inr ⟨side x, u.map ren, (t, B) :: Bl, x, Blocks.cons (x := (side x, u.map ren)) h1 hpw (fun y hy => by cases hy; exact fun e => ht e.symm), ?_, fun n hn => ?_, hxx, head_map hx, Or.inl rfl⟩
        · intro y hy
          rcases List.mem_cons.1 hy with rfl | hy
          · exact hU
          · exact h2 y hy
        · rw [hact n hn, h3 n hn]; rfl
theorem all_Q : ∀ (n : Nat) (w : List Int), w.length ≤ n → Rd w → (∀ y ∈ w, Lt y) → NoP w → w = [] ∨ QA w ∨ QB w := by
  intro n
  induction n with
  | zero => intro w hn _ _ _; exact Or.inl (List.eq_nil_of_length_eq_zero (by omega))
  | succ n ih =>
    intro w hn hr hl hp
    cases w with
    | nil => exact Or.inl rfl
    | cons a w =>
      obtain ⟨u, v, h1, h2, h3, h4⟩ := split_side (a :: w) a rfl
      rw [h1] at hr hl hp hn ⊢
      have hul : 0 < u.length := by cases u with
        | nil => cases h2
        | cons _ _ => simp
      rw [List.length_append] at hn
      exact Or.inr (step_Q hr hl hp h2 h3 h4 (ih v (by omega) hr.right (fun y hy => hl y (List.mem_append_right _ hy)) hp.right))
/-- A word without inverse neighbours and without such parts leads away, unless it is empty. -/
theorem away {w : List Int} (hr : Rd w) (hl : ∀ y ∈ w, Lt y) (hp : NoP w) (h : actW w (0, []) = (0, [])) : w = [] := by
  rcases all_Q w.length w (Nat.le_refl _) hr hl hp with e | ⟨K, k, x, h1, h2, h3, h4, h5⟩ | ⟨t, B, Bl, x, h1, h2, h3, h4, h5, h6⟩
  · exact e
  · rw [h1 (0, []) trivial] at h
    have := congrArg Prod.fst h
    simp at this; omega
  · rw [h3 (0, []) trivial] at h
    have := (h1.away h2).1
    rw [h] at this
    simp at this
/-- The relator acts as nothing. -/
theorem rel_act (n : St) (h : Alt n.2) : actW [1, 2, -1, -2, 3, 4, -3, -4] n = n := by
  rw [show [1, 2, -1, -2, 3, 4, -3, -4] = [1, 2, -1, -2] ++ ([3, 4, -3, -4] : List Int) from rfl, actW_append]
  have h2 : Alt (actW [3, 4, -3, -4] n).2 := actW_alt h
  rw [actW_side (s := false) (u := [1, 2, -1, -2]) (by decide) h2, show red ([1, 2, -1, -2].map ren) = zp 1 from by decide, act_zp h2,
    actW_side (s := true) (u := [3, 4, -3, -4]) (by decide) h, show red ([3, 4, -3, -4].map ren) = zp (-1) from by decide, act_zp h]
  simp only [← Int.add_assoc]
  show (0 + n.1, n.2) = n
  rw [Int.zero_add]
end Am
end Go.Proofs.Ytfaagbmaekoogaa
namespace Go.Proofs.Ytfaagbmaekoogaa
open Word

namespace Dn
/-- Letters that act on something: two inverse letters undo each other, and the relator of two handles does nothing. -/
structure Acts (α : Type) where
  act : Int → α → α
  V : α → Prop
  keep : ∀ x n, V n → V (act x n)
  back : ∀ x n, V n → act x (act (-x) n) = n
  rel : ∀ n, V n → [1, 2, -1, -2, 3, 4, -3, -4].foldr act n = n
section
variable {α : Type} (R : Acts α)
def Acts.on (w : List Int) (n : α) : α := w.foldr R.act n
theorem Acts.on_append (u v : List Int) (n : α) : R.on (u ++ v) n = R.on u (R.on v n) := by unfold Acts.on; rw [List.foldr_append]
theorem Acts.on_keep (w : List Int) {n : α} (h : R.V n) : R.V (R.on w n) := by
  induction w with
  | nil => exact h
  | cons x w ih => exact R.keep x _ ih
theorem Acts.on_inv (w : List Int) {n : α} (h : R.V n) : R.on w (R.on (Word.inv w) n) = n := by
  induction w generalizing n with
  | nil => rfl
  | cons x w ih =>
    rw [Word.inv_cons, R.on_append]
    show R.act x (R.on w (R.on (Word.inv w) (R.act (-x) n))) = n
    rw [ih (R.keep _ _ h), R.back x n h]
theorem Acts.inv_on (w : List Int) {n : α} (h : R.V n) : R.on (Word.inv w) (R.on w n) = n := by
  have := R.on_inv (Word.inv w) h
  rwa [Am.inv_inv] at this
theorem Acts.on_step (s : List Int) (x : Int) {n : α} (h : R.V n) : R.on (redStep s x) n = R.on s (R.act x n) := by
  by_cases hx : s.getLast? = some (-x)
  · rcases Am.snoc_cases s with rfl | ⟨t, y, rfl⟩
    · cases hx
    · simp at hx; subst hx
      rw [Am.redStep_snoc_back, R.on_append]
      show _ = R.on t (R.act (-x) (R.act x n))
      have := R.back (-x) n h
      rw [Int.neg_neg] at this
      rw [this]
  · rw [Am.redStep_on hx, R.on_append]; rfl
theorem Acts.on_fold (v : List Int) : ∀ (s : List Int) {n : α}, R.V n → R.on (v.foldl redStep s) n = R.on s (R.on v n) := by
  induction v with
  | nil => intro s n _; rfl
  | cons x v ih =>
    intro s n h
    rw [List.foldl_cons, ih _ h, R.on_step _ _ (R.on_keep v h)]; rfl
theorem Acts.on_red (w : List Int) {n : α} (h : R.V n) : R.on (red w) n = R.on w n := R.on_fold w [] h
/-- It does nothing. -/
def Acts.T (w : List Int) : Prop := ∀ n, R.V n → R.on w n = n
theorem Acts.T.inv {w : List Int} (h : R.T w) : R.T (Word.inv w) := fun n hn => by
  have := R.inv_on w hn
  rwa [h n hn] at this
theorem Acts.T.swap {u v : List Int} (h : R.T (u ++ v)) : R.T (v ++ u) := fun n hn => by
  have h1 : ∀ m, R.V m → R.on u (R.on v m) = m := fun m hm => by rw [← R.on_append]; exact h m hm
  have h2 := h1 (R.on (Word.inv v) n) (R.on_keep _ hn)
  rw [R.on_inv v hn] at h2
  rw [R.on_append, h2, R.on_inv v hn]
theorem Acts.T.turn {w : List Int} (h : R.T w) (k : Int) : R.T (Word.turn w k) := by
  unfold Word.turn
  refine Acts.T.swap R ?_
  rw [List.take_append_drop]; exact h
theorem Acts.cand (t : Nat) : R.T (cand 2 t) := by
  unfold Dn.cand
  refine Acts.T.turn R ?_ t
  have hr : R.T (Dn.rel 2) := fun n hn => R.rel n hn
  split
  · exact hr.inv
  · exact hr
theorem Acts.part {p q : List Int} (h : R.T (p ++ q)) {n : α} (hn : R.V n) : R.on (Word.inv q) n = R.on p n := by
  have h1 := h (R.on (Word.inv q) n) (R.on_keep _ hn)
  rw [R.on_append, R.on_inv q hn] at h1
  exact h1.symm
theorem bestTo_take (g : Int) (v : List Int) (t : Nat) : v.take (bestTo g v t).1 = (bestTo g v t).2.take (bestTo g v t).1 := by
  induction t with
  | zero => rfl
  | succ t ih =>
    rw [bestTo_succ]; unfold pick; split
    · exact lcp_take v _
    · exact ih
theorem Acts.on_out {w : List Int} {i : Nat} {n : α} (hn : R.V n) : R.on (w.take i ++ (Word.inv ((bestTo 2 (w.drop i) 16).2.drop (bestTo 2 (w.drop i) 16).1) ++ w.drop (i + (bestTo 2 (w.drop i) 16).1))) n = R.on w n := by
  have ht := bestTo_take 2 (w.drop i) 16
  have hm := bestTo_mem 2 (w.drop i) 16
  generalize bestTo 2 (w.drop i) 16 = p at *
  have hT : R.T (p.2.take p.1 ++ p.2.drop p.1) := by
    rw [List.take_append_drop]
    rcases hm with e | ⟨k, _, e⟩
    · rw [e]; intro n _; rfl
    · rw [e]; exact R.cand k
  have hw : w = w.take i ++ ((w.drop i).take p.1 ++ w.drop (i + p.1)) := by
    rw [← List.drop_drop, List.take_append_drop, List.take_append_drop]
  conv => rhs; rw [hw]
  rw [R.on_append, R.on_append, R.on_append, R.on_append, R.part hT (R.on_keep _ hn), ht]
theorem Acts.on_stepAt {w r : List Int} {i : Nat} (h : stepAt 2 w i = some r) {n : α} (hn : R.V n) : R.on r n = R.on w n := by
  unfold stepAt at h
  split at h
  · cases h
    show R.on (red _) n = _
    rw [R.on_red _ hn]
    exact R.on_out hn
  · cases h
theorem Acts.on_dehn : ∀ (m : Nat) (w : List Int), w.length ≤ m → ∀ {n : α}, R.V n → R.on (dehn 2 w) n = R.on w n := by
  intro m
  induction m with
  | zero => intro w hm n hn; rw [dehn_none (step_no fun j hj => by omega)]
  | succ m ih =>
    intro w hm n hn
    cases h : step 2 w with
    | none => rw [dehn_none h]
    | some r =>
      have hl := step_len (g := 2) (by unfold Gr; omega) h
      obtain ⟨i, _, e⟩ := step_some h
      rw [dehn_some (by unfold Gr; omega) h, ih r (by omega) hn, R.on_stepAt e hn]
theorem Acts.triv {w : List Int} (h : Triv 2 w) : R.T w := fun n hn => by
  unfold Triv at h
  rw [if_pos rfl] at h
  have h1 := R.on_dehn (red w).length (red w) (Nat.le_refl _) hn
  rw [h, R.on_red w hn] at h1
  exact h1.symm
end
/-- The amalgam. -/
noncomputable def RA : Acts Am.St := ⟨Am.L, fun n => Am.Alt n.2, fun _ _ h => Am.act_alt h, fun _ _ h => Am.L_L h, fun n h => Am.rel_act n h⟩
/-- Sums of letters. -/
def RS (j : Nat) : Acts Int := ⟨fun x n => wt j x + n, fun _ => True, fun _ _ h => h, fun x n _ => by rw [wt_neg]; omega, fun n _ => by
  simp only [List.foldr_cons, List.foldr_nil]
  have h1 := wt_neg j 1
  have h2 := wt_neg j 2
  have h3 := wt_neg j 3
  have h4 := wt_neg j 4
  omega⟩
theorem RS_on (j : Nat) (w : List Int) (n : Int) : (RS j).on w n = tot j w + n := by
  induction w with
  | nil => simp [Acts.on, tot]
  | cons x w ih =>
    show wt j x + (RS j).on w n = _
    rw [ih, tot_cons]; omega
theorem triv_tot {w : List Int} (h : Triv 2 w) (j : Nat) : tot j w = 0 := by
  have := (RS j).triv h 0 trivial
  rw [RS_on] at this; omega
theorem bestTo_ge (g : Int) (v : List Int) : ∀ (m t : Nat), t < m → lcp v (cand g t) ≤ (bestTo g v m).1 := by
  intro m
  induction m with
  | zero => intro t h; omega
  | succ m ih =>
    intro t h
    rw [bestTo_succ]
    by_cases e : t = m
    · subst e
      unfold pick; split <;> (first | omega | (simp only; omega))
    · have := ih t (by omega)
      unfold pick; split <;> (first | omega | (simp only; omega))
theorem lcp_common : ∀ (p b r : List Int), p <+: r → p.length ≤ lcp (p ++ b) r
  | [], b, r, _ => Nat.zero_le _
  | x :: p, b, [], h => by have := h.length_le; simp at this
  | x :: p, b, y :: r, h => by
    rw [List.cons_prefix_cons] at h
    show _ ≤ lcp (x :: (p ++ b)) (y :: r)
    unfold lcp
    rw [if_pos h.1]
    have := lcp_common p b r h.2
    simp only [List.length_cons]; omega
theorem piece_cand : ∀ p ∈ Am.pieces, p.length = 5 ∧ ∃ t, t < 16 ∧ p <+: cand 2 t := by decide
theorem nop_of {w : List Int} (h : step 2 w = none) : Am.NoP w := by
  intro p hp a b e
  obtain ⟨h5, t, ht, hpre⟩ := piece_cand p hp
  have hi : a.length < w.length := by rw [e]; simp; omega
  have hs := step_none h hi
  have hdrop : w.drop a.length = p ++ b := by rw [e]; simp
  have h1 := lcp_common p b (cand 2 t) hpre
  have h2 := bestTo_ge 2 (p ++ b) 16 t ht
  unfold stepAt at hs
  rw [hdrop, if_pos (by show (2 * 2 : Int) < ((bestTo 2 (p ++ b) 16).1 : Int); omega)] at hs
  cases hs
theorem dehn_stop : ∀ (m : Nat) (w : List Int), w.length ≤ m → step 2 (dehn 2 w) = none := by
  intro m
  induction m with
  | zero => intro w hm; rw [dehn_none (step_no fun j hj => by omega)]; exact step_no fun j hj => by omega
  | succ m ih =>
    intro w hm
    cases h : step 2 w with
    | none => rw [dehn_none h]; exact h
    | some r =>
      have hl := step_len (g := 2) (by unfold Gr; omega) h
      rw [dehn_some (by unfold Gr; omega) h]
      exact ih r (by omega)
theorem dehn_keeps {p : List Int → Prop} (hp : ∀ w r, p w → step 2 w = some r → p r) : ∀ (m : Nat) (w : List Int), w.length ≤ m → p w → p (dehn 2 w) := by
  intro m
  induction m with
  | zero => intro w hm hw; rw [dehn_none (step_no fun j hj => by omega)]; exact hw
  | succ m ih =>
    intro w hm hw
    cases h : step 2 w with
    | none => rw [dehn_none h]; exact hw
    | some r =>
      have hl := step_len (g := 2) (by unfold Gr; omega) h
      rw [dehn_some (by unfold Gr; omega) h]
      exact ih r (by omega) (hp w r hw h)
/-- Dehn's theorem: what does nothing is rewritten to nothing. -/
theorem triv_of {w : List Int} (hl : ∀ x ∈ w, Let 2 x) (h : RA.T w) : Triv 2 w := by
  unfold Triv
  rw [if_pos rfl]
  have hg : Gr 2 := by unfold Gr; omega
  have hk := dehn_keeps (p := fun w => Am.Rd w ∧ ∀ x ∈ w, Let 2 x) (fun w r hw hs => ⟨by rw [← step_red hs]; exact Am.red_rd r, step_letters hg hw.2 hs⟩) (red w).length (red w) (Nat.le_refl _) ⟨Am.red_rd w, red_mem hl⟩
  have hn := dehn_stop (red w).length (red w) (Nat.le_refl _)
  have hon : RA.on (dehn 2 (red w)) (0, []) = (0, []) := by
    have h0 : RA.V (0, []) := trivial
    rw [RA.on_dehn (red w).length (red w) (Nat.le_refl _) h0, RA.on_red w h0, h _ h0]
  refine Am.away hk.1 (fun y hy => ?_) (nop_of hn) hon
  obtain ⟨⟨h1, h2, h3⟩, h4⟩ := hk.2 y hy
  exact ⟨h1, by omega, by omega⟩
theorem triv_iff {w : List Int} (hl : ∀ x ∈ w, Let 2 x) : Triv 2 w ↔ RA.T w := ⟨fun h => RA.triv h, fun h => triv_of hl h⟩

/-- What the law asks. -/
theorem triv_inv {g : Int} {w : List Int} (hg : Gr g) (hl : ∀ x ∈ w, Let g x) (h : Triv g w) : Triv g (Word.inv w) := by
  rcases gr_cases hg with rfl | rfl
  · unfold Triv at h ⊢
    rw [if_neg (by decide)] at h ⊢
    rw [tot_inv, tot_inv]; omega
  · exact triv_of (inv_letters (p := Let 2) (fun _ => let_neg) hl) (Acts.T.inv RA (RA.triv h))
theorem tot_turn (j : Nat) (l : List Int) (k : Int) : tot j (Word.turn l k) = tot j l := by
  unfold Word.turn
  rw [tot_append]
  conv => rhs; rw [← List.take_append_drop (k % (l.length : Int)).toNat l, tot_append]
  omega
theorem triv_turn {g : Int} {w : List Int} (hg : Gr g) (hl : ∀ x ∈ w, Let g x) (h : Triv g w) (k : Int) : Triv g (Word.turn w k) := by
  rcases gr_cases hg with rfl | rfl
  · unfold Triv at h ⊢
    rw [if_neg (by decide)] at h ⊢
    rw [tot_turn, tot_turn]; exact h
  · exact triv_of (fun x hx => hl x (turn_mem hx)) (Acts.T.turn RA (RA.triv h) k)
theorem triv_sum {g : Int} {w : List Int} (hg : Gr g) (hl : Lets g w) (h : Triv g w) (j : Nat) : tot j w = 0 := by
  rcases gr_cases hg with rfl | rfl
  · unfold Triv at h
    rw [if_neg (by decide)] at h
    match j with
    | 0 => exact h.1
    | 1 => exact h.2
    | j + 2 => exact tot_far hl (by omega)
  · exact triv_tot h j
theorem tot_redStep (j : Nat) (s : List Int) (x : Int) : tot j (redStep s x) = tot j s + wt j x := by
  by_cases hx : s.getLast? = some (-x)
  · rcases Am.snoc_cases s with rfl | ⟨t, y, rfl⟩
    · cases hx
    · simp at hx; subst hx
      rw [Am.redStep_snoc_back, tot_append, tot_one, wt_neg]; omega
  · rw [Am.redStep_on hx, tot_append, tot_one]
theorem tot_red (j : Nat) (l : List Int) : tot j (red l) = tot j l := by
  have key : ∀ (m s : List Int), tot j (m.foldl redStep s) = tot j s + tot j m := by
    intro m
    induction m with
    | nil => intro s; simp [tot]
    | cons x m ih => intro s; rw [List.foldl_cons, ih, tot_redStep, tot_cons]; omega
  rw [red, key]; simp [tot]
theorem tot_cand {g : Int} (hg : Gr g) (t j : Nat) : tot j (cand g t) = 0 := by
  have hr : tot j (Dn.rel g) = 0 := by
    have h1 := wt_neg j 1
    have h2 := wt_neg j 2
    have h3 := wt_neg j 3
    have h4 := wt_neg j 4
    rcases gr_cases hg with rfl | rfl
    · show tot j [1, 2, -1, -2] = 0
      rw [tot_cons, tot_cons, tot_cons, tot_cons, show tot j [] = 0 from rfl]; omega
    · show tot j [1, 2, -1, -2, 3, 4, -3, -4] = 0
      rw [tot_cons, tot_cons, tot_cons, tot_cons, tot_cons, tot_cons, tot_cons, tot_cons, show tot j [] = 0 from rfl]; omega
  unfold cand
  rw [tot_turn]
  split
  · rw [tot_inv, hr]; rfl
  · exact hr
theorem tot_step {g : Int} (hg : Gr g) {w r : List Int} (h : step g w = some r) (j : Nat) : tot j r = tot j w := by
  obtain ⟨i, hi, e⟩ := step_some h
  unfold stepAt at e
  split at e
  · cases e
    have ht := bestTo_take g (w.drop i) (8 * g).toNat
    have hm := bestTo_mem g (w.drop i) (8 * g).toNat
    unfold out
    generalize bestTo g (w.drop i) (8 * g).toNat = p at *
    have hT : tot j (p.2.take p.1) + tot j (p.2.drop p.1) = 0 := by
      rw [← tot_append, List.take_append_drop]
      rcases hm with e | ⟨k, _, e⟩
      · rw [e]; rfl
      · rw [e]; exact tot_cand hg k j
    have hw : w = w.take i ++ ((w.drop i).take p.1 ++ w.drop (i + p.1)) := by
      rw [← List.drop_drop, List.take_append_drop, List.take_append_drop]
    conv => rhs; rw [hw]
    rw [tot_red, tot_append, tot_append, tot_append, tot_append, tot_inv, ht]; omega
  · cases e
/-- A step is shorter, and trivial together with the word. -/
theorem stepW_facts {g : Int} {l r : List Int} (h : stepW g l = some r) : r.length < (Word.reduce l).length ∧ (TrivW g r ↔ TrivW g l) := by
  unfold stepW at h
  split at h
  · rename_i hF
    have hg := hF.1
    have hrd : Word.reduce l = red l := if_pos hF.2.1
    have hlen := step_len hg h
    have hL := step_letters hg hF.red.lets h
    have hFr : Fit g r := Fit.mk hg hL (by have := hF.red.2.1.2; omega)
    refine ⟨by rw [hrd]; exact hlen, ⟨fun ⟨_, h2⟩ => ⟨hF, ?_⟩, fun ⟨_, h2⟩ => ⟨hFr, ?_⟩⟩⟩
    · rcases gr_cases hg with rfl | rfl
      · unfold Triv at h2 ⊢
        rw [if_neg (by decide)] at h2 ⊢
        rwa [tot_step hg h, tot_step hg h, tot_red, tot_red] at h2
      · unfold Triv at h2 ⊢
        rw [if_pos rfl] at h2 ⊢
        rw [dehn_some hg h, ← step_red h]; exact h2
    · rcases gr_cases hg with rfl | rfl
      · unfold Triv at h2 ⊢
        rw [if_neg (by decide)] at h2 ⊢
        rwa [tot_step hg h, tot_step hg h, tot_red, tot_red]
      · unfold Triv at h2 ⊢
        rw [if_pos rfl] at h2 ⊢
        rwa [step_red h, ← dehn_some hg h]
  · cases h
theorem homW_eq {g : Int} {v u : List Int} (hv : Fit g v) (hu : Fit g u) (h : ∀ j, tot j v = tot j u) : homW g v = homW g u := by
  unfold homW
  rw [if_pos hv, if_pos hu, sums_list hv.2.1.1, sums_list hu.2.1.1]
  congr 1
  exact List.map_congr_left fun j _ => h j
theorem homW_zero {g : Int} {l : List Int} (h : TrivW g l) : (homW g l).sum = 0 ∧ ∀ x ∈ homW g l, x = 0 := by
  have key : ∀ x ∈ homW g l, x = 0 := by
    unfold homW
    rw [if_pos h.1, sums_list h.1.2.1.1]
    intro x hx
    obtain ⟨j, _, rfl⟩ := List.mem_map.1 (List.mem_of_mem_take hx)
    exact triv_sum h.1.1 h.1.2.2 h.2 j
  refine ⟨?_, key⟩
  generalize homW g l = L at key
  induction L with
  | nil => rfl
  | cons x L ih =>
    rw [List.sum_cons, ih (fun y hy => key y (List.mem_cons_of_mem _ hy)), key x (List.mem_cons_self ..)]; rfl
theorem trivW_inv {g : Int} {l : List Int} (h : TrivW g l) : TrivW g (Word.inverse l) := by
  rw [show Word.inverse l = Word.inv l from if_pos h.1.2.1]
  exact ⟨h.1.inv, triv_inv h.1.1 h.1.lets h.2⟩
theorem trivW_turn {g : Int} {l : List Int} (h : TrivW g l) (k : Int) : TrivW g (Word.turned l k) := by
  rw [show Word.turned l k = Word.turn l k from if_pos h.1.2.1]
  exact ⟨Fit.mk h.1.1 (fun x hx => h.1.lets x (turn_mem hx)) (by rw [turn_len]; exact h.1.2.1.2), triv_turn h.1.1 h.1.lets h.2 k⟩
theorem equalW_symm {g : Int} {v u : List Int} (h : EqualW g v u) : EqualW g u v ∧ homW g v = homW g u := by
  obtain ⟨h1, h2, h3, h4⟩ := h
  have hl : ∀ x ∈ v ++ Word.inv u, Let g x := fun x hx => by
    rcases List.mem_append.1 hx with h | h
    · exact h1.lets x h
    · exact h2.inv.lets x h
  have h5 := triv_inv h1.1 hl h4
  rw [Am.inv_append, Am.inv_inv] at h5
  refine ⟨⟨h2, h1, by omega, h5⟩, homW_eq h1 h2 fun j => ?_⟩
  have := triv_sum h1.1 (fun x hx => (hl x hx).2) h4 j
  rw [tot_append, tot_inv] at this; omega
theorem trivW_rel : TrivW 1 (Dn.rel 1) ∧ TrivW 2 (Dn.rel 2) := by decide +kernel
theorem commW_one : CommW 1 [1] [1, 1] ∧ CommW 2 [1] [1, 1] := by decide +kernel

/-- Three sheets. -/
def img (x : Int) (s : Nat) : Nat :=
  if x = 1 ∨ x = 4 then (if s = 0 then 1 else if s = 1 then 2 else if s = 2 then 0 else s)
  else if x = -1 ∨ x = -4 then (if s = 0 then 2 else if s = 1 then 0 else if s = 2 then 1 else s)
  else if x = 2 ∨ x = -2 ∨ x = 3 ∨ x = -3 then (if s = 0 then 1 else if s = 1 then 0 else s)
  else s
theorem img_back (x : Int) (s : Nat) : img x (img (-x) s) = s := by
  unfold img
  by_cases h1 : x = 1 ∨ x = 4
  · rw [if_pos h1, if_neg (show ¬ (-x = 1 ∨ -x = 4) by omega), if_pos (show -x = -1 ∨ -x = -4 by omega)]
    by_cases a : s = 0 <;> by_cases b : s = 1 <;> by_cases c : s = 2 <;> simp_all
  · by_cases h2 : x = -1 ∨ x = -4
    · rw [if_neg h1, if_pos h2, if_pos (show -x = 1 ∨ -x = 4 by omega)]
      by_cases a : s = 0 <;> by_cases b : s = 1 <;> by_cases c : s = 2 <;> simp_all
    · by_cases h3 : x = 2 ∨ x = -2 ∨ x = 3 ∨ x = -3
      · rw [if_neg h1, if_neg h2, if_pos h3, if_neg (show ¬ (-x = 1 ∨ -x = 4) by omega), if_neg (show ¬ (-x = -1 ∨ -x = -4) by omega), if_pos (show -x = 2 ∨ -x = -2 ∨ -x = 3 ∨ -x = -3 by omega)]
        by_cases a : s = 0 <;> by_cases b : s = 1 <;> simp_all
      · rw [if_neg h1, if_neg h2, if_neg h3, if_neg (show ¬ (-x = 1 ∨ -x = 4) by omega), if_neg (show ¬ (-x = -1 ∨ -x = -4) by omega), if_neg (show ¬ (-x = 2 ∨ -x = -2 ∨ -x = 3 ∨ -x = -3) by omega)]
theorem img_lt (x : Int) {s : Nat} (h : s < 3) : img x s < 3 := by
  unfold img
  split
  · split
    · omega
    · split
      · omega
      · split <;> omega
  · split
    · split
      · omega
      · split
        · omega
        · split <;> omega
    · split
      · split
        · omega
        · split <;> omega
      · exact h
/-- Letters act inversely here, so that a row of images read from the left is the action of the inverse word. -/
def RP : Acts Nat := ⟨fun x s => img (-x) s, fun s => s < 3, fun x s h => img_lt _ h, fun x s _ => by have := img_back (-x) s; exact this, fun s h => by
  have : s = 0 ∨ s = 1 ∨ s = 2 := by omega
  rcases this with rfl | rfl | rfl <;> decide⟩
theorem RP_on (w : List Int) : ∀ s, RP.on (Word.inv w) s = w.foldl (fun s x => img x s) s := by
  induction w with
  | nil => intro s; rfl
  | cons x w ih =>
    intro s
    rw [Word.inv_cons, RP.on_append, ih]
    show w.foldl _ (img (-(-x)) s) = _
    rw [Int.neg_neg]; rfl
theorem sheets {w : List Int} (h : Triv 2 w) {s : Nat} (hs : s < 3) : w.foldl (fun s x => img x s) s = s := by
  rw [← RP_on]
  exact Acts.T.inv RP (RP.triv h) s hs
end Dn
end Go.Proofs.Ytfaagbmaekoogaa
