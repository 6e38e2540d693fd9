/-
  Words without inverse neighbours are a group; two of these groups, sewn along one word, act on rows of cosets (an amalgam): pure.
-/
import Derived.Test.YtodgongemoabiaaWord
namespace Go.Proofs.Ytodgongemoabiaa
open Word

namespace Am
/-- No letter stands before its inverse. -/
def Rd : List Int → Prop
  | [] => True
  | [_] => True
  | x :: y :: r => y ≠ -x ∧ Rd (y :: r)
theorem Rd.tail {x : Int} {l : List Int} (h : Rd (x :: l)) : Rd l := by
  cases l with
  | nil => trivial
  | cons y r => exact h.2
theorem Rd.cons {x : Int} {l : List Int} (h : Rd l) (hx : ∀ y, l.head? = some y → y ≠ -x) : Rd (x :: l) := by
  cases l with
  | nil => trivial
  | cons y r => exact ⟨hx y rfl, h⟩
theorem Rd.right : ∀ {u v : List Int}, Rd (u ++ v) → Rd v := by
  intro u
  induction u with
  | nil => intro v h; exact h
  | cons x u ih => intro v h; exact ih h.tail
theorem Rd.left : ∀ {u v : List Int}, Rd (u ++ v) → Rd u := by
  intro u
  induction u with
  | nil => intro v h; trivial
  | cons x u ih =>
    intro v h
    refine (ih h.tail).cons fun y hy => ?_
    cases u with
    | nil => cases hy
    | cons z u => cases hy; exact h.1
theorem Rd.mid {u v : List Int} (h : Rd (u ++ v)) {x y : Int} (hx : u.getLast? = some x) (hy : v.head? = some y) : y ≠ -x := by
  induction u with
  | nil => cases hx
  | cons a u ih =>
    cases u with
    | nil =>
      simp at hx; subst hx
      cases v with
      | nil => cases hy
      | cons b v => cases hy; exact h.1
    | cons b u =>
      rw [List.getLast?_cons_cons] at hx
      exact ih h.tail hx
theorem Rd.join {u v : List Int} (hu : Rd u) (hv : Rd v) (h : ∀ x y, u.getLast? = some x → v.head? = some y → y ≠ -x) : Rd (u ++ v) := by
  induction u with
  | nil => exact hv
  | cons a u ih =>
    refine (ih hu.tail (fun x y hx hy => h x y ?_ hy)).cons fun y hy => ?_
    · cases u with
      | nil => cases hx
      | cons b u => rw [List.getLast?_cons_cons]; exact hx
    · cases u with
      | nil => exact h a y rfl hy
      | cons b u => cases hy; exact hu.1
theorem snoc_cases (l : List Int) : l = [] ∨ ∃ t x, l = t ++ [x] := by
  rcases List.eq_nil_or_concat l with h | ⟨t, x, h⟩
  · exact Or.inl h
  · exact Or.inr ⟨t, x, by simpa using h⟩
theorem redStep_snoc_back (t : List Int) (x : Int) : redStep (t ++ [-x]) x = t := by
  unfold redStep; rw [if_pos (by simp)]; simp
theorem redStep_on {t : List Int} {x : Int} (h : t.getLast? ≠ some (-x)) : redStep t x = t ++ [x] := by
  unfold redStep; rw [if_neg h]
theorem redStep_rd {s : List Int} (h : Rd s) (x : Int) : Rd (redStep s x) := by
  by_cases hx : s.getLast? = some (-x)
  · unfold redStep; rw [if_pos hx]
    rcases snoc_cases s with rfl | ⟨t, y, rfl⟩
    · exact h
    · simp; exact h.left
  · rw [redStep_on hx]
    refine h.join trivial fun y z hy hz => ?_
    cases hz
    intro e; subst e
    exact hx (by rw [hy]; simp)
theorem fold_rd {s : List Int} (h : Rd s) (v : List Int) : Rd (v.foldl redStep s) := by
  induction v generalizing s with
  | nil => exact h
  | cons x v ih => exact ih (redStep_rd h x)
theorem red_rd (l : List Int) : Rd (red l) := fold_rd (s := []) trivial l
theorem fold_of_rd {s v : List Int} (h : Rd (s ++ v)) : v.foldl redStep s = s ++ v := by
  induction v generalizing s with
  | nil => simp
  | cons x v ih =>
    rw [List.foldl_cons, redStep_on, ih]
    · simp
    · simpa using h
    · intro e
      exact h.mid e rfl (by simp)
theorem red_of_rd {l : List Int} (h : Rd l) : red l = l := fold_of_rd (s := []) h
theorem red_red (l : List Int) : red (red l) = red l := red_of_rd (red_rd l)
theorem redStep_back {s : List Int} (h : Rd s) (x : Int) : redStep (redStep s x) (-x) = s := by
  by_cases hx : s.getLast? = some (-x)
  · rcases snoc_cases s with rfl | ⟨t, y, rfl⟩
    · cases hx
    · simp at hx; subst hx
      rw [redStep_snoc_back, redStep_on]
      intro e
      exact h.mid e rfl (by simp)
  · rw [redStep_on hx]
    have := redStep_snoc_back s (-x)
    simpa using this
theorem fold_red {s t : List Int} (hs : Rd s) (ht : Rd t) (v : List Int) : (v.foldl redStep t).foldl redStep s = v.foldl redStep (t.foldl redStep s) := by
  induction v generalizing t with
  | nil => rfl
  | cons x v ih =>
    rw [List.foldl_cons, ih (redStep_rd ht x), List.foldl_cons]
    congr 1
    by_cases hx : t.getLast? = some (-x)
    · rcases snoc_cases t with rfl | ⟨t, y, rfl⟩
      · cases hx
      · simp at hx; subst hx
        rw [redStep_snoc_back, List.foldl_append, List.foldl_cons, List.foldl_nil]
        have := redStep_back (fold_rd hs t) (-x)
        simp at this
        exact this.symm
    · rw [redStep_on hx, List.foldl_append, List.foldl_cons, List.foldl_nil]
theorem red_append (u v : List Int) : red (u ++ v) = v.foldl redStep (red u) := by unfold red; rw [List.foldl_append]
theorem red_left (u v : List Int) : red (red u ++ v) = red (u ++ v) := by rw [red_append, red_append, red_red]
theorem red_right (u v : List Int) : red (u ++ red v) = red (u ++ v) := by
  rw [red_append, red_append]
  exact fold_red (t := []) (red_rd u) trivial v
/-- The product of two words, reduced. -/
def mul (u v : List Int) : List Int := red (u ++ v)
theorem mul_assoc (u v w : List Int) : mul (mul u v) w = mul u (mul v w) := by
  unfold mul; rw [red_left, red_right, List.append_assoc]
theorem mul_rd (u v : List Int) : Rd (mul u v) := red_rd _
theorem mul_one {u : List Int} (h : Rd u) : mul u [] = u := by unfold mul; rw [List.append_nil, red_of_rd h]
theorem one_mul {u : List Int} (h : Rd u) : mul [] u = u := red_of_rd h
theorem inv_append (u v : List Int) : inv (u ++ v) = inv v ++ inv u := by simp [inv]
theorem inv_inv (u : List Int) : inv (inv u) = u := by
  unfold inv; simp [Function.comp_def]
theorem red_pair (x : Int) : red [x, -x] = [] := by
  show redStep (redStep [] x) (-x) = []
  exact redStep_back (s := []) trivial x
theorem mul_inv (u : List Int) : mul u (inv u) = [] := by
  induction u with
  | nil => rfl
  | cons x u ih =>
    unfold mul at ih ⊢
    rw [inv_cons, show x :: u ++ (inv u ++ [-x]) = [x] ++ ((u ++ inv u) ++ [-x]) from by simp, ← red_right, ← red_left (u ++ inv u), ih, red_right]
    exact red_pair x
theorem inv_mul (u : List Int) : mul (inv u) u = [] := by
  have := mul_inv (inv u); rwa [inv_inv] at this
theorem inv_rd {u : List Int} (h : Rd u) : Rd (inv u) := by
  induction u with
  | nil => trivial
  | cons x u ih =>
    rw [inv_cons]
    refine (ih h.tail).join trivial fun a b ha hb => ?_
    cases hb
    cases u with
    | nil => cases ha
    | cons y u =>
      rw [inv_cons] at ha
      simp at ha; subst ha
      have := h.1; omega
/-- The word along which the two sides are sewn, and its powers. -/
def P : Nat → List Int
  | 0 => []
  | n + 1 => 1 :: 2 :: -1 :: -2 :: P n
def M : Nat → List Int
  | 0 => []
  | n + 1 => 2 :: 1 :: -2 :: -1 :: M n
def zp : Int → List Int
  | .ofNat n => P n
  | .negSucc n => M (n + 1)
theorem P_head (n : Nat) : (P n).head? = some 1 ∨ P n = [] := by cases n <;> simp [P]
theorem M_head (n : Nat) : (M n).head? = some 2 ∨ M n = [] := by cases n <;> simp [M]
theorem P_rd : ∀ n, Rd (P n)
  | 0 => trivial
  | n + 1 => ⟨by decide, by decide, by decide, (P_rd n).cons fun y hy => by
      rcases P_head n with h | h <;> rw [h] at hy <;> cases hy; decide⟩
theorem M_rd : ∀ n, Rd (M n)
  | 0 => trivial
  | n + 1 => ⟨by decide, by decide, by decide, (M_rd n).cons fun y hy => by
      rcases M_head n with h | h <;> rw [h] at hy <;> cases hy; decide⟩
theorem zp_rd : ∀ k : Int, Rd (zp k)
  | .ofNat n => P_rd n
  | .negSucc n => M_rd (n + 1)
theorem zp_zero : zp 0 = [] := rfl
theorem P_len (n : Nat) : (P n).length = 4 * n := by induction n <;> simp [P]; omega
theorem M_len (n : Nat) : (M n).length = 4 * n := by induction n <;> simp [M]; omega
def Z : List Int := [1, 2, -1, -2]
def Zi : List Int := [2, 1, -2, -1]
theorem P_succ (n : Nat) : mul Z (P n) = P (n + 1) := red_of_rd (P_rd (n + 1))
theorem M_succ (n : Nat) : mul Zi (M n) = M (n + 1) := red_of_rd (M_rd (n + 1))
theorem Z_Zi : mul Z Zi = [] := by decide
theorem Zi_Z : mul Zi Z = [] := by decide
theorem Z_zp (k : Int) : mul Z (zp k) = zp (k + 1) := by
  cases k with
  | ofNat n => exact P_succ n
  | negSucc n =>
    show mul Z (M (n + 1)) = _
    rw [← M_succ, ← mul_assoc, Z_Zi, one_mul (M_rd n)]
    cases n with
    | zero => rfl
    | succ n => rfl
theorem Zi_zp (k : Int) : mul Zi (zp k) = zp (k - 1) := by
  have := Z_zp (k - 1)
  rw [Int.sub_add_cancel] at this
  rw [← this, ← mul_assoc, Zi_Z, one_mul (zp_rd _)]
theorem zp_add (j k : Int) : mul (zp j) (zp k) = zp (j + k) := by
  cases j with
  | ofNat n =>
    induction n with
    | zero => show mul [] (zp k) = zp (0 + k); rw [one_mul (zp_rd _), Int.zero_add]
    | succ n ih =>
      show mul (P (n + 1)) (zp k) = _
      rw [← P_succ, mul_assoc, show P n = zp (.ofNat n) from rfl, ih, Z_zp]
      congr 1; simp only [Int.ofNat_eq_natCast]; omega
  | negSucc n =>
    induction n with
    | zero => show mul Zi (zp k) = _; rw [Zi_zp]; congr 1; omega
    | succ n ih =>
      show mul (M (n + 2)) (zp k) = _
      rw [← M_succ, mul_assoc, show M (n + 1) = zp (.negSucc n) from rfl, ih, Zi_zp]
      congr 1; omega
theorem zp_inj {j k : Int} (h : zp j = zp k) : j = k := by
  have key : ∀ j : Int, zp j = [] → j = 0 := by
    intro j hj
    cases j with
    | ofNat n => cases n with
      | zero => rfl
      | succ n => cases hj
    | negSucc n => cases hj
  have h2 : zp (j - k) = [] := by
    have e : mul (zp j) (zp (-k)) = mul (zp k) (zp (-k)) := by rw [h]
    rw [zp_add, zp_add, Int.add_right_neg] at e
    exact e
  have := key _ h2; omega
/-- A power of the word. -/
def Pw (u : List Int) : Prop := ∃ k, u = zp k
theorem zp_cancel (k : Int) {u : List Int} (h : Rd u) : mul (zp (-k)) (mul (zp k) u) = u := by
  rw [← mul_assoc, zp_add, Int.add_left_neg, zp_zero, one_mul h]
theorem Pw.of_left {k : Int} {u : List Int} (hu : Rd u) (h : Pw (mul (zp k) u)) : Pw u := by
  obtain ⟨j, hj⟩ := h
  refine ⟨-k + j, ?_⟩
  rw [← zp_cancel k hu, hj, zp_add]
theorem Pw.of_right {k : Int} {u : List Int} (hu : Rd u) (h : Pw (mul u (zp k))) : Pw u := by
  obtain ⟨j, hj⟩ := h
  refine ⟨j + -k, ?_⟩
  have : mul (mul u (zp k)) (zp (-k)) = u := by rw [mul_assoc, zp_add, Int.add_right_neg, zp_zero, mul_one hu]
  rw [← this, hj, zp_add]
/-- The same coset. -/
def Co (u v : List Int) : Prop := ∃ k, mul (zp k) v = u
theorem Co.refl {u : List Int} (h : Rd u) : Co u u := ⟨0, one_mul h⟩
theorem Co.symm {u v : List Int} (hv : Rd v) (h : Co u v) : Co v u := by
  obtain ⟨k, rfl⟩ := h
  exact ⟨-k, zp_cancel k hv⟩
theorem Co.trans {u v w : List Int} (h : Co u v) (h' : Co v w) : Co u w := by
  obtain ⟨k, rfl⟩ := h
  obtain ⟨j, rfl⟩ := h'
  exact ⟨k + j, by rw [← zp_add, mul_assoc]⟩
noncomputable def rep (u : List Int) : List Int := Classical.epsilon fun v => Rd v ∧ Co u v
theorem rep_spec {u : List Int} (h : Rd u) : Rd (rep u) ∧ Co u (rep u) := Classical.epsilon_spec (p := fun v => Rd v ∧ Co u v) ⟨u, h, Co.refl h⟩
theorem rep_co {u v : List Int} (hv : Rd v) (h : Co u v) : rep u = rep v := by
  unfold rep
  congr 1
  funext t
  refine propext ⟨fun ⟨a, b⟩ => ⟨a, (h.symm hv).trans b⟩, fun ⟨a, b⟩ => ⟨a, h.trans b⟩⟩
theorem rep_rep {u : List Int} (h : Rd u) : rep (rep u) = rep u := (rep_co (rep_spec h).1 (rep_spec h).2).symm
theorem rep_pw {u : List Int} (h : Rd u) (hp : Pw (rep u)) : Pw u := by
  obtain ⟨k, hk⟩ := (rep_spec h).2
  obtain ⟨j, hj⟩ := hp
  exact ⟨k + j, by rw [← hk, hj, zp_add]⟩
noncomputable def expo (u : List Int) : Int := Classical.epsilon fun k => mul (zp k) (rep u) = u
theorem expo_spec {u : List Int} (h : Rd u) : mul (zp (expo u)) (rep u) = u := Classical.epsilon_spec (p := fun k => mul (zp k) (rep u) = u) (rep_spec h).2
noncomputable def expo1 (u : List Int) : Int := Classical.epsilon fun k => u = zp k
theorem expo1_spec {u : List Int} (h : Pw u) : u = zp (expo1 u) := Classical.epsilon_spec (p := fun k => u = zp k) h
theorem mul_right_cancel {u v t : List Int} (hu : Rd u) (hv : Rd v) (h : mul u t = mul v t) : u = v := by
  have := congrArg (fun x => mul x (inv t)) h
  simp only [mul_assoc, mul_inv] at this
  rwa [mul_one hu, mul_one hv] at this

/-- A state: a power, and cosets on alternating sides. -/
abbrev St := Int × List (Bool × List Int)
def Alt : List (Bool × List Int) → Prop
  | [] => True
  | [x] => Rd x.2 ∧ rep x.2 = x.2 ∧ ¬ Pw x.2
  | x :: y :: r => (Rd x.2 ∧ rep x.2 = x.2 ∧ ¬ Pw x.2) ∧ x.1 ≠ y.1 ∧ Alt (y :: r)
theorem Alt.head {x : Bool × List Int} {r : List (Bool × List Int)} (h : Alt (x :: r)) : Rd x.2 ∧ rep x.2 = x.2 ∧ ¬ Pw x.2 := by
  cases r with
  | nil => exact h
  | cons y r => exact h.1
theorem Alt.tail {x : Bool × List Int} {r : List (Bool × List Int)} (h : Alt (x :: r)) : Alt r := by
  cases r with
  | nil => trivial
  | cons y r => exact h.2.2
/-- The list does not begin on the side s. -/
def Free (s : Bool) (l : List (Bool × List Int)) : Prop := ∀ x, l.head? = some x → x.1 ≠ s
theorem Alt.free {x : Bool × List Int} {r : List (Bool × List Int)} (h : Alt (x :: r)) : Free x.1 r := by
  cases r with
  | nil => intro y hy; cases hy
  | cons y r => intro t ht; cases ht; exact fun e => h.2.1 e.symm
theorem Alt.cons {x : Bool × List Int} {r : List (Bool × List Int)} (h : Alt r) (hx : Rd x.2 ∧ rep x.2 = x.2 ∧ ¬ Pw x.2) (hf : Free x.1 r) : Alt (x :: r) := by
  cases r with
  | nil => exact hx
  | cons y r => exact ⟨hx, fun e => hf y rfl e.symm, h⟩
def top (s : Bool) (n : St) : List Int × List (Bool × List Int) :=
  match n.2 with
  | [] => (zp n.1, [])
  | x :: r => if x.1 = s then (mul (zp n.1) x.2, r) else (zp n.1, x :: r)
open Classical in
noncomputable def push (s : Bool) (v : List Int) (l : List (Bool × List Int)) : St :=
  if Pw v then (expo1 v, l) else (expo v, (s, rep v) :: l)
theorem top_free {s : Bool} {k : Int} {l : List (Bool × List Int)} (h : Free s l) : top s (k, l) = (zp k, l) := by
  cases l with
  | nil => rfl
  | cons x r => unfold top; simp only; rw [if_neg (h x rfl)]
theorem top_spec (s : Bool) {n : St} (h : Alt n.2) : Rd (top s n).1 ∧ Alt (top s n).2 ∧ Free s (top s n).2 := by
  obtain ⟨k, l⟩ := n
  cases l with
  | nil => exact ⟨zp_rd _, trivial, fun x hx => by cases hx⟩
  | cons x r =>
    by_cases e : x.1 = s
    · subst e
      unfold top; simp only [if_true]
      exact ⟨mul_rd _ _, Alt.tail h, Alt.free h⟩
    · unfold top; simp only [if_neg e]
      exact ⟨zp_rd _, h, fun y hy => by cases hy; exact e⟩
theorem push_alt {s : Bool} {v : List Int} {l : List (Bool × List Int)} (hv : Rd v) (hl : Alt l) (hf : Free s l) : Alt (push s v l).2 := by
  unfold push
  split
  · exact hl
  · rename_i hp
    exact Alt.cons (x := (s, rep v)) hl ⟨(rep_spec hv).1, rep_rep hv, fun h => hp (rep_pw hv h)⟩ hf
theorem top_push {s : Bool} {v : List Int} {l : List (Bool × List Int)} (hv : Rd v) (hf : Free s l) : top s (push s v l) = (v, l) := by
  unfold push
  split
  · rename_i hp
    rw [top_free hf, ← expo1_spec hp]
  · unfold top; simp only [if_true]
    rw [expo_spec hv]
theorem push_top {s : Bool} {n : St} (h : Alt n.2) : push s (top s n).1 (top s n).2 = n := by
  obtain ⟨k, l⟩ := n
  have free : ∀ l, Free s l → push s (top s (k, l)).1 (top s (k, l)).2 = (k, l) := by
    intro l hf
    rw [top_free hf]
    unfold push
    have hp : Pw (zp k) := ⟨k, rfl⟩
    rw [if_pos hp, ← zp_inj (expo1_spec hp)]
  cases l with
  | nil => exact free [] (fun x hx => by cases hx)
  | cons x r =>
    by_cases e : x.1 = s
    · subst e
      obtain ⟨hx1, hx2, hx3⟩ := Alt.head h
      unfold top; simp only [if_true]
      unfold push
      have hnp : ¬ Pw (mul (zp k) x.2) := fun hp => hx3 (hp.of_left hx1)
      have hrep : rep (mul (zp k) x.2) = x.2 := by rw [rep_co hx1 ⟨k, rfl⟩, hx2]
      rw [if_neg hnp, hrep]
      have := expo_spec (mul_rd (zp k) x.2)
      rw [hrep] at this
      have := zp_inj (mul_right_cancel (zp_rd _) (zp_rd _) this)
      rw [this]
    · exact free _ (fun y hy => by cases hy; exact e)
/-- An element of a side acts. -/
noncomputable def act (s : Bool) (u : List Int) (n : St) : St := push s (mul u (top s n).1) (top s n).2
theorem act_alt {s : Bool} {u : List Int} {n : St} (h : Alt n.2) : Alt (act s u n).2 :=
  push_alt (mul_rd _ _) (top_spec s h).2.1 (top_spec s h).2.2
theorem act_act {s : Bool} {u v : List Int} {n : St} (h : Alt n.2) : act s u (act s v n) = act s (mul u v) n := by
  unfold act
  rw [top_push (mul_rd _ _) (top_spec s h).2.2, mul_assoc]
theorem act_one {s : Bool} {n : St} (h : Alt n.2) : act s [] n = n := by
  unfold act
  rw [one_mul (top_spec s h).1, push_top h]
theorem act_zp {s : Bool} {j : Int} {n : St} (h : Alt n.2) : act s (zp j) n = (j + n.1, n.2) := by
  have e : top s (j + n.1, n.2) = (mul (zp j) (top s n).1, (top s n).2) := by
    obtain ⟨k, l⟩ := n
    have free : ∀ l, Free s l → top s (j + k, l) = (mul (zp j) (top s (k, l)).1, (top s (k, l)).2) := by
      intro l hf
      rw [top_free hf, top_free hf]
      simp only [zp_add]
    cases l with
    | nil => exact free [] (fun x hx => by cases hx)
    | cons x r =>
      by_cases e : x.1 = s
      · subst e
        unfold top; simp only [if_true]
        rw [← zp_add, mul_assoc]
      · exact free _ (fun y hy => by cases hy; exact e)
  have := push_top (s := s) (n := (j + n.1, n.2)) h
  rw [e] at this
  exact this
/-- Elements that are no powers, on alternating sides, lead away. -/
def Blocks : List (Bool × List Int) → Prop
  | [] => True
  | [x] => ¬ Pw x.2
  | x :: y :: r => ¬ Pw x.2 ∧ x.1 ≠ y.1 ∧ Blocks (y :: r)
noncomputable def acts (l : List (Bool × List Int)) (n : St) : St := l.foldr (fun x n => act x.1 x.2 n) n
theorem acts_alt {l : List (Bool × List Int)} {n : St} (h : Alt n.2) : Alt (acts l n).2 := by
  induction l with
  | nil => exact h
  | cons x l ih => exact act_alt ih
theorem Blocks.tail {x : Bool × List Int} {r : List (Bool × List Int)} (h : Blocks (x :: r)) : Blocks r := by
  cases r with
  | nil => trivial
  | cons y r => exact h.2.2
theorem Blocks.head {x : Bool × List Int} {r : List (Bool × List Int)} (h : Blocks (x :: r)) : ¬ Pw x.2 := by
  cases r with
  | nil => exact h
  | cons y r => exact h.1
theorem Blocks.cons {x : Bool × List Int} {r : List (Bool × List Int)} (h : Blocks r) (hx : ¬ Pw x.2) (hf : Free x.1 r) : Blocks (x :: r) := by
  cases r with
  | nil => exact hx
  | cons y r => exact ⟨hx, fun e => hf y rfl e.symm, h⟩
theorem Blocks.free {x : Bool × List Int} {r : List (Bool × List Int)} (h : Blocks (x :: r)) : Free x.1 r := by
  cases r with
  | nil => intro y hy; cases hy
  | cons y r => intro t ht; cases ht; exact fun e => h.2.1 e.symm
theorem Blocks.away {l : List (Bool × List Int)} (h : Blocks l) (hr : ∀ x ∈ l, Rd x.2) : (acts l (0, [])).2.length = l.length ∧ ∀ x, (acts l (0, [])).2.head? = some x → ∃ y, l.head? = some y ∧ y.1 = x.1 := by
  induction l with
  | nil => exact ⟨rfl, fun x hx => by cases hx⟩
  | cons x l ih =>
    obtain ⟨h1, h2⟩ := ih h.tail (fun y hy => hr y (List.mem_cons_of_mem _ hy))
    have hf : Free x.1 (acts l (0, [])).2 := by
      intro y hy e
      obtain ⟨t, ht, hty⟩ := h2 y hy
      exact h.free t ht (hty.trans e)
    show (act x.1 x.2 (acts l (0, []))).2.length = _ ∧ ∀ y, (act x.1 x.2 (acts l (0, []))).2.head? = some y → _
    unfold act
    rw [show top x.1 (acts l (0, [])) = (zp (acts l (0, [])).1, (acts l (0, [])).2) from top_free hf]
    have hnp : ¬ Pw (mul x.2 (zp (acts l (0, [])).1)) := fun hp => h.head (hp.of_right (hr x (List.mem_cons_self ..)))
    unfold push
    rw [if_neg hnp]
    refine ⟨by simp [h1], fun y hy => ?_⟩
    cases hy
    exact ⟨x, rfl, rfl⟩
end Am
end Go.Proofs.Ytodgongemoabiaa
