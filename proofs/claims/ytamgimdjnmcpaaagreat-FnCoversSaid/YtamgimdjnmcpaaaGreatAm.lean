/-
  Words without inverse neighbours are a group; two of these groups, sewn along one word, act on rows of cosets (an amalgam): pure. Words of the groups of surfaces: relators, steps of Dehn, what is left, sums of letters: pure.
-/
import Derived.Test.YtamgimdjnmcpaaaGreatWord
namespace Go.Proofs.YtamgimdjnmcpaaaGreat
open Word

namespace Am
/-- No letter stands before its inverse. -/
def Rd : List Int → Prop
  | [] => True
  | [_] => True
  | x :: y :: r => y ≠ -x ∧ Rd (y :: r)
theorem Rd.tail {x : Int} {l : List Int} (h : Rd (x :: l)) : Rd l := by
  cases l with
  | nil => trivial
  | cons y r => exact h.2
theorem Rd.cons {x : Int} {l : List Int} (h : Rd l) (hx : ∀ y, l.head? = some y → y ≠ -x) : Rd (x :: l) := by
  cases l with
  | nil => trivial
  | cons y r => exact ⟨hx y rfl, h⟩
theorem Rd.right : ∀ {u v : List Int}, Rd (u ++ v) → Rd v := by
  intro u
  induction u with
  | nil => intro v h; exact h
  | cons x u ih => intro v h; exact ih h.tail
theorem Rd.left : ∀ {u v : List Int}, Rd (u ++ v) → Rd u := by
  intro u
  induction u with
  | nil => intro v h; trivial
  | cons x u ih =>
    intro v h
    refine (ih h.tail).cons fun y hy => ?_
    cases u with
    | nil => cases hy
    | cons z u => cases hy; exact h.1
theorem Rd.mid {u v : List Int} (h : Rd (u ++ v)) {x y : Int} (hx : u.getLast? = some x) (hy : v.head? = some y) : y ≠ -x := by
  induction u with
  | nil => cases hx
  | cons a u ih =>
    cases u with
    | nil =>
      simp at hx; subst hx
      cases v with
      | nil => cases hy
      | cons b v => cases hy; exact h.1
    | cons b u =>
      rw [List.getLast?_cons_cons] at hx
      exact ih h.tail hx
theorem Rd.join {u v : List Int} (hu : Rd u) (hv : Rd v) (h : ∀ x y, u.getLast? = some x → v.head? = some y → y ≠ -x) : Rd (u ++ v) := by
  induction u with
  | nil => exact hv
  | cons a u ih =>
    refine (ih hu.tail (fun x y hx hy => h x y ?_ hy)).cons fun y hy => ?_
    · cases u with
      | nil => cases hx
      | cons b u => rw [List.getLast?_cons_cons]; exact hx
    · cases u with
      | nil => exact h a y rfl hy
      | cons b u => cases hy; exact hu.1
theorem snoc_cases (l : List Int) : l = [] ∨ ∃ t x, l = t ++ [x] := by
  rcases List.eq_nil_or_concat l with h | ⟨t, x, h⟩
  · exact Or.inl h
  · exact Or.inr ⟨t, x, by simpa using h⟩
theorem redStep_snoc_back (t : List Int) (x : Int) : redStep (t ++ [-x]) x = t := by
  unfold redStep; rw [if_pos (by simp)]; simp
theorem redStep_on {t : List Int} {x : Int} (h : t.getLast? ≠ some (-x)) : redStep t x = t ++ [x] := by
  unfold redStep; rw [if_neg h]
theorem redStep_rd {s : List Int} (h : Rd s) (x : Int) : Rd (redStep s x) := by
  by_cases hx : s.getLast? = some (-x)
  · unfold redStep; rw [if_pos hx]
    rcases snoc_cases s with rfl | ⟨t, y, rfl⟩
    · exact h
    · simp; exact h.left
  · rw [redStep_on hx]
    refine h.join trivial fun y z hy hz => ?_
    cases hz
    intro e; subst e
    exact hx (by rw [hy]; simp)
theorem fold_rd {s : List Int} (h : Rd s) (v : List Int) : Rd (v.foldl redStep s) := by
  induction v generalizing s with
  | nil => exact h
  | cons x v ih => exact ih (redStep_rd h x)
theorem red_rd (l : List Int) : Rd (red l) := fold_rd (s := []) trivial l
theorem fold_of_rd {s v : List Int} (h : Rd (s ++ v)) : v.foldl redStep s = s ++ v := by
  induction v generalizing s with
  | nil => simp
  | cons x v ih =>
    rw [List.foldl_cons, redStep_on, ih]
    · simp
    · simpa using h
    · intro e
      exact h.mid e rfl (by simp)
theorem red_of_rd {l : List Int} (h : Rd l) : red l = l := fold_of_rd (s := []) h
theorem red_red (l : List Int) : red (red l) = red l := red_of_rd (red_rd l)
theorem redStep_back {s : List Int} (h : Rd s) (x : Int) : redStep (redStep s x) (-x) = s := by
  by_cases hx : s.getLast? = some (-x)
  · rcases snoc_cases s with rfl | ⟨t, y, rfl⟩
    · cases hx
    · simp at hx; subst hx
      rw [redStep_snoc_back, redStep_on]
      intro e
      exact h.mid e rfl (by simp)
  · rw [redStep_on hx]
    have := redStep_snoc_back s (-x)
    simpa using this
theorem fold_red {s t : List Int} (hs : Rd s) (ht : Rd t) (v : List Int) : (v.foldl redStep t).foldl redStep s = v.foldl redStep (t.foldl redStep s) := by
  induction v generalizing t with
  | nil => rfl
  | cons x v ih =>
    rw [List.foldl_cons, ih (redStep_rd ht x), List.foldl_cons]
    congr 1
    by_cases hx : t.getLast? = some (-x)
    · rcases snoc_cases t with rfl | ⟨t, y, rfl⟩
      · cases hx
      · simp at hx; subst hx
        rw [redStep_snoc_back, List.foldl_append, List.foldl_cons, List.foldl_nil]
        have := redStep_back (fold_rd hs t) (-x)
        simp at this
        exact this.symm
    · rw [redStep_on hx, List.foldl_append, List.foldl_cons, List.foldl_nil]
theorem red_append (u v : List Int) : red (u ++ v) = v.foldl redStep (red u) := by unfold red; rw [List.foldl_append]
theorem red_left (u v : List Int) : red (red u ++ v) = red (u ++ v) := by rw [red_append, red_append, red_red]
theorem red_right (u v : List Int) : red (u ++ red v) = red (u ++ v) := by
  rw [red_append, red_append]
  exact fold_red (t := []) (red_rd u) trivial v
/-- The product of two words, reduced. -/
def mul (u v : List Int) : List Int := red (u ++ v)
theorem mul_assoc (u v w : List Int) : mul (mul u v) w = mul u (mul v w) := by
  unfold mul; rw [red_left, red_right, List.append_assoc]
theorem mul_rd (u v : List Int) : Rd (mul u v) := red_rd _
theorem mul_one {u : List Int} (h : Rd u) : mul u [] = u := by unfold mul; rw [List.append_nil, red_of_rd h]
theorem one_mul {u : List Int} (h : Rd u) : mul [] u = u := red_of_rd h
theorem inv_append (u v : List Int) : inv (u ++ v) = inv v ++ inv u := by simp [inv]
theorem inv_inv (u : List Int) : inv (inv u) = u := by
  unfold inv; simp [Function.comp_def]
theorem red_pair (x : Int) : red [x, -x] = [] := by
  show redStep (redStep [] x) (-x) = []
  exact redStep_back (s := []) trivial x
theorem mul_inv (u : List Int) : mul u (inv u) = [] := by
  induction u with
  | nil => rfl
  | cons x u ih =>
    unfold mul at ih ⊢
    rw [inv_cons, show x :: u ++ (inv u ++ [-x]) = [x] ++ ((u ++ inv u) ++ [-x]) from by simp, ← red_right, ← red_left (u ++ inv u), ih, red_right]
    exact red_pair x
theorem inv_mul (u : List Int) : mul (inv u) u = [] := by
  have := mul_inv (inv u); rwa [inv_inv] at this
theorem inv_rd {u : List Int} (h : Rd u) : Rd (inv u) := by
  induction u with
  | nil => trivial
  | cons x u ih =>
    rw [inv_cons]
    refine (ih h.tail).join trivial fun a b ha hb => ?_
    cases hb
    cases u with
    | nil => cases ha
    | cons y u =>
      rw [inv_cons] at ha
      simp at ha; subst ha
      have := h.1; omega
/-- The word along which the two sides are sewn, and its powers. -/
def P : Nat → List Int
  | 0 => []
  | n + 1 => 1 :: 2 :: -1 :: -2 :: P n
def M : Nat → List Int
  | 0 => []
  | n + 1 => 2 :: 1 :: -2 :: -1 :: M n
def zp : Int → List Int
  | .ofNat n => P n
  | .negSucc n => M (n + 1)
theorem P_head (n : Nat) : (P n).head? = some 1 ∨ P n = [] := by cases n <;> simp [P]
theorem M_head (n : Nat) : (M n).head? = some 2 ∨ M n = [] := by cases n <;> simp [M]
theorem P_rd : ∀ n, Rd (P n)
  | 0 => trivial
  | n + 1 => ⟨by decide, by decide, by decide, (P_rd n).cons fun y hy => by
      rcases P_head n with h | h <;> rw [h] at hy <;> cases hy; decide⟩
theorem M_rd : ∀ n, Rd (M n)
  | 0 => trivial
  | n + 1 => ⟨by decide, by decide, by decide, (M_rd n).cons fun y hy => by
      rcases M_head n with h | h <;> rw [h] at hy <;> cases hy; decide⟩
theorem zp_rd : ∀ k : Int, Rd (zp k)
  | .ofNat n => P_rd n
  | .negSucc n => M_rd (n + 1)
theorem zp_zero : zp 0 = [] := rfl
theorem P_len (n : Nat) : (P n).length = 4 * n := by induction n <;> simp [P]; omega
theorem M_len (n : Nat) : (M n).length = 4 * n := by induction n <;> simp [M]; omega
def Z : List Int := [1, 2, -1, -2]
def Zi : List Int := [2, 1, -2, -1]
theorem P_succ (n : Nat) : mul Z (P n) = P (n + 1) := red_of_rd (P_rd (n + 1))
theorem M_succ (n : Nat) : mul Zi (M n) = M (n + 1) := red_of_rd (M_rd (n + 1))
theorem Z_Zi : mul Z Zi = [] := by decide
theorem Zi_Z : mul Zi Z = [] := by decide
theorem Z_zp (k : Int) : mul Z (zp k) = zp (k + 1) := by
  cases k with
  | ofNat n => exact P_succ n
  | negSucc n =>
    show mul Z (M (n + 1)) = _
    rw [← M_succ, ← mul_assoc, Z_Zi, one_mul (M_rd n)]
    cases n with
    | zero => rfl
    | succ n => rfl
theorem Zi_zp (k : Int) : mul Zi (zp k) = zp (k - 1) := by
  have := Z_zp (k - 1)
  rw [Int.sub_add_cancel] at this
  rw [← this, ← mul_assoc, Zi_Z, one_mul (zp_rd _)]
theorem zp_add (j k : Int) : mul (zp j) (zp k) = zp (j + k) := by
  cases j with
  | ofNat n =>
    induction n with
    | zero => show mul [] (zp k) = zp (0 + k); rw [one_mul (zp_rd _), Int.zero_add]
    | succ n ih =>
      show mul (P (n + 1)) (zp k) = _
      rw [← P_succ, mul_assoc, show P n = zp (.ofNat n) from rfl, ih, Z_zp]
      congr 1; simp only [Int.ofNat_eq_natCast]; omega
  | negSucc n =>
    induction n with
    | zero => show mul Zi (zp k) = _; rw [Zi_zp]; congr 1; omega
    | succ n ih =>
      show mul (M (n + 2)) (zp k) = _
      rw [← M_succ, mul_assoc, show M (n + 1) = zp (.negSucc n) from rfl, ih, Zi_zp]
      congr 1; omega
theorem zp_inj {j k : Int} (h : zp j = zp k) : j = k := by
  have key : ∀ j : Int, zp j = [] → j = 0 := by
    intro j hj
    cases j with
    | ofNat n => cases n with
      | zero => rfl
      | succ n => cases hj
    | negSucc n => cases hj
  have h2 : zp (j - k) = [] := by
    have e : mul (zp j) (zp (-k)) = mul (zp k) (zp (-k)) := by rw [h]
    rw [zp_add, zp_add, Int.add_right_neg] at e
    exact e
  have := key _ h2; omega
/-- A power of the word. -/
def Pw (u : List Int) : Prop := ∃ k, u = zp k
theorem zp_cancel (k : Int) {u : List Int} (h : Rd u) : mul (zp (-k)) (mul (zp k) u) = u := by
  rw [← mul_assoc, zp_add, Int.add_left_neg, zp_zero, one_mul h]
theorem Pw.of_left {k : Int} {u : List Int} (hu : Rd u) (h : Pw (mul (zp k) u)) : Pw u := by
  obtain ⟨j, hj⟩ := h
  refine ⟨-k + j, ?_⟩
  rw [← zp_cancel k hu, hj, zp_add]
theorem Pw.of_right {k : Int} {u : List Int} (hu : Rd u) (h : Pw (mul u (zp k))) : Pw u := by
  obtain ⟨j, hj⟩ := h
  refine ⟨j + -k, ?_⟩
  have : mul (mul u (zp k)) (zp (-k)) = u := by rw [mul_assoc, zp_add, Int.add_right_neg, zp_zero, mul_one hu]
  rw [← this, hj, zp_add]
/-- The same coset. -/
def Co (u v : List Int) : Prop := ∃ k, mul (zp k) v = u
theorem Co.refl {u : List Int} (h : Rd u) : Co u u := ⟨0, one_mul h⟩
theorem Co.symm {u v : List Int} (hv : Rd v) (h : Co u v) : Co v u := by
  obtain ⟨k, rfl⟩ := h
  exact ⟨-k, zp_cancel k hv⟩
theorem Co.trans {u v w : List Int} (h : Co u v) (h' : Co v w) : Co u w := by
  obtain ⟨k, rfl⟩ := h
  obtain ⟨j, rfl⟩ := h'
  exact ⟨k + j, by rw [← zp_add, mul_assoc]⟩
noncomputable def rep (u : List Int) : List Int := Classical.epsilon fun v => Rd v ∧ Co u v
theorem rep_spec {u : List Int} (h : Rd u) : Rd (rep u) ∧ Co u (rep u) := Classical.epsilon_spec (p := fun v => Rd v ∧ Co u v) ⟨u, h, Co.refl h⟩
theorem rep_co {u v : List Int} (hv : Rd v) (h : Co u v) : rep u = rep v := by
  unfold rep
  congr 1
  funext t
  refine propext ⟨fun ⟨a, b⟩ => ⟨a, (h.symm hv).trans b⟩, fun ⟨a, b⟩ => ⟨a, h.trans b⟩⟩
theorem rep_rep {u : List Int} (h : Rd u) : rep (rep u) = rep u := (rep_co (rep_spec h).1 (rep_spec h).2).symm
theorem rep_pw {u : List Int} (h : Rd u) (hp : Pw (rep u)) : Pw u := by
  obtain ⟨k, hk⟩ := (rep_spec h).2
  obtain ⟨j, hj⟩ := hp
  exact ⟨k + j, by rw [← hk, hj, zp_add]⟩
noncomputable def expo (u : List Int) : Int := Classical.epsilon fun k => mul (zp k) (rep u) = u
theorem expo_spec {u : List Int} (h : Rd u) : mul (zp (expo u)) (rep u) = u := Classical.epsilon_spec (p := fun k => mul (zp k) (rep u) = u) (rep_spec h).2
noncomputable def expo1 (u : List Int) : Int := Classical.epsilon fun k => u = zp k
theorem expo1_spec {u : List Int} (h : Pw u) : u = zp (expo1 u) := Classical.epsilon_spec (p := fun k => u = zp k) h
theorem mul_right_cancel {u v t : List Int} (hu : Rd u) (hv : Rd v) (h : mul u t = mul v t) : u = v := by
  have := congrArg (fun x => mul x (inv t)) h
  simp only [mul_assoc, mul_inv] at this
  rwa [mul_one hu, mul_one hv] at this

/-- A state: a power, and cosets on alternating sides. -/
abbrev St := Int × List (Bool × List Int)
def Alt : List (Bool × List Int) → Prop
  | [] => True
  | [x] => Rd x.2 ∧ rep x.2 = x.2 ∧ ¬ Pw x.2
  | x :: y :: r => (Rd x.2 ∧ rep x.2 = x.2 ∧ ¬ Pw x.2) ∧ x.1 ≠ y.1 ∧ Alt (y :: r)
theorem Alt.head {x : Bool × List Int} {r : List (Bool × List Int)} (h : Alt (x :: r)) : Rd x.2 ∧ rep x.2 = x.2 ∧ ¬ Pw x.2 := by
  cases r with
  | nil => exact h
  | cons y r => exact h.1
theorem Alt.tail {x : Bool × List Int} {r : List (Bool × List Int)} (h : Alt (x :: r)) : Alt r := by
  cases r with
  | nil => trivial
  | cons y r => exact h.2.2
/-- The list does not begin on the side s. -/
def Free (s : Bool) (l : List (Bool × List Int)) : Prop := ∀ x, l.head? = some x → x.1 ≠ s
theorem Alt.free {x : Bool × List Int} {r : List (Bool × List Int)} (h : Alt (x :: r)) : Free x.1 r := by
  cases r with
  | nil => intro y hy; cases hy
  | cons y r => intro t ht; cases ht; exact fun e => h.2.1 e.symm
theorem Alt.cons {x : Bool × List Int} {r : List (Bool × List Int)} (h : Alt r) (hx : Rd x.2 ∧ rep x.2 = x.2 ∧ ¬ Pw x.2) (hf : Free x.1 r) : Alt (x :: r) := by
  cases r with
  | nil => exact hx
  | cons y r => exact ⟨hx, fun e => hf y rfl e.symm, h⟩
def top (s : Bool) (n : St) : List Int × List (Bool × List Int) :=
  match n.2 with
  | [] => (zp n.1, [])
  | x :: r => if x.1 = s then (mul (zp n.1) x.2, r) else (zp n.1, x :: r)
open Classical in
noncomputable def push (s : Bool) (v : List Int) (l : List (Bool × List Int)) : St :=
  if Pw v then (expo1 v, l) else (expo v, (s, rep v) :: l)
theorem top_free {s : Bool} {k : Int} {l : List (Bool × List Int)} (h : Free s l) : top s (k, l) = (zp k, l) := by
  cases l with
  | nil => rfl
  | cons x r => unfold top; simp only; rw [if_neg (h x rfl)]
theorem top_spec (s : Bool) {n : St} (h : Alt n.2) : Rd (top s n).1 ∧ Alt (top s n).2 ∧ Free s (top s n).2 := by
  obtain ⟨k, l⟩ := n
  cases l with
  | nil => exact ⟨zp_rd _, trivial, fun x hx => by cases hx⟩
  | cons x r =>
    by_cases e : x.1 = s
    · subst e
      unfold top; simp only [if_true]
      exact ⟨mul_rd _ _, Alt.tail h, Alt.free h⟩
    · unfold top; simp only [if_neg e]
      exact ⟨zp_rd _, h, fun y hy => by cases hy; exact e⟩
theorem push_alt {s : Bool} {v : List Int} {l : List (Bool × List Int)} (hv : Rd v) (hl : Alt l) (hf : Free s l) : Alt (push s v l).2 := by
  unfold push
  split
  · exact hl
  · rename_i hp
    exact Alt.cons (x := (s, rep v)) hl ⟨(rep_spec hv).1, rep_rep hv, fun h => hp (rep_pw hv h)⟩ hf
theorem top_push {s : Bool} {v : List Int} {l : List (Bool × List Int)} (hv : Rd v) (hf : Free s l) : top s (push s v l) = (v, l) := by
  unfold push
  split
  · rename_i hp
    rw [top_free hf, ← expo1_spec hp]
  · unfold top; simp only [if_true]
    rw [expo_spec hv]
theorem push_top {s : Bool} {n : St} (h : Alt n.2) : push s (top s n).1 (top s n).2 = n := by
  obtain ⟨k, l⟩ := n
  have free : ∀ l, Free s l → push s (top s (k, l)).1 (top s (k, l)).2 = (k, l) := by
    intro l hf
    rw [top_free hf]
    unfold push
    have hp : Pw (zp k) := ⟨k, rfl⟩
    rw [if_pos hp, ← zp_inj (expo1_spec hp)]
  cases l with
  | nil => exact free [] (fun x hx => by cases hx)
  | cons x r =>
    by_cases e : x.1 = s
    · subst e
      obtain ⟨hx1, hx2, hx3⟩ := Alt.head h
      unfold top; simp only [if_true]
      unfold push
      have hnp : ¬ Pw (mul (zp k) x.2) := fun hp => hx3 (hp.of_left hx1)
      have hrep : rep (mul (zp k) x.2) = x.2 := by rw [rep_co hx1 ⟨k, rfl⟩, hx2]
      rw [if_neg hnp, hrep]
      have := expo_spec (mul_rd (zp k) x.2)
      rw [hrep] at this
      have := zp_inj (mul_right_cancel (zp_rd _) (zp_rd _) this)
      rw [this]
    · exact free _ (fun y hy => by cases hy; exact e)
/-- An element of a side acts. -/
noncomputable def act (s : Bool) (u : List Int) (n : St) : St := push s (mul u (top s n).1) (top s n).2
theorem act_alt {s : Bool} {u : List Int} {n : St} (h : Alt n.2) : Alt (act s u n).2 :=
  push_alt (mul_rd _ _) (top_spec s h).2.1 (top_spec s h).2.2
theorem act_act {s : Bool} {u v : List Int} {n : St} (h : Alt n.2) : act s u (act s v n) = act s (mul u v) n := by
  unfold act
  rw [top_push (mul_rd _ _) (top_spec s h).2.2, mul_assoc]
theorem act_one {s : Bool} {n : St} (h : Alt n.2) : act s [] n = n := by
  unfold act
  rw [one_mul (top_spec s h).1, push_top h]
theorem act_zp {s : Bool} {j : Int} {n : St} (h : Alt n.2) : act s (zp j) n = (j + n.1, n.2) := by
  have e : top s (j + n.1, n.2) = (mul (zp j) (top s n).1, (top s n).2) := by
    obtain ⟨k, l⟩ := n
    have free : ∀ l, Free s l → top s (j + k, l) = (mul (zp j) (top s (k, l)).1, (top s (k, l)).2) := by
      intro l hf
      rw [top_free hf, top_free hf]
      simp only [zp_add]
    cases l with
    | nil => exact free [] (fun x hx => by cases hx)
    | cons x r =>
      by_cases e : x.1 = s
      · subst e
        unfold top; simp only [if_true]
        rw [← zp_add, mul_assoc]
      · exact free _ (fun y hy => by cases hy; exact e)
  have := push_top (s := s) (n := (j + n.1, n.2)) h
  rw [e] at this
  exact this
/-- Elements that are no powers, on alternating sides, lead away. -/
def Blocks : List (Bool × List Int) → Prop
  | [] => True
  | [x] => ¬ Pw x.2
  | x :: y :: r => ¬ Pw x.2 ∧ x.1 ≠ y.1 ∧ Blocks (y :: r)
noncomputable def acts (l : List (Bool × List Int)) (n : St) : St := l.foldr (fun x n => act x.1 x.2 n) n
theorem acts_alt {l : List (Bool × List Int)} {n : St} (h : Alt n.2) : Alt (acts l n).2 := by
  induction l with
  | nil => exact h
  | cons x l ih => exact act_alt ih
theorem Blocks.tail {x : Bool × List Int} {r : List (Bool × List Int)} (h : Blocks (x :: r)) : Blocks r := by
  cases r with
  | nil => trivial
  | cons y r => exact h.2.2
theorem Blocks.head {x : Bool × List Int} {r : List (Bool × List Int)} (h : Blocks (x :: r)) : ¬ Pw x.2 := by
  cases r with
  | nil => exact h
  | cons y r => exact h.1
theorem Blocks.cons {x : Bool × List Int} {r : List (Bool × List Int)} (h : Blocks r) (hx : ¬ Pw x.2) (hf : Free x.1 r) : Blocks (x :: r) := by
  cases r with
  | nil => exact hx
  | cons y r => exact ⟨hx, fun e => hf y rfl e.symm, h⟩
theorem Blocks.free {x : Bool × List Int} {r : List (Bool × List Int)} (h : Blocks (x :: r)) : Free x.1 r := by
  cases r with
  | nil => intro y hy; cases hy
  | cons y r => intro t ht; cases ht; exact fun e => h.2.1 e.symm
theorem Blocks.away {l : List (Bool × List Int)} (h : Blocks l) (hr : ∀ x ∈ l, Rd x.2) : (acts l (0, [])).2.length = l.length ∧ ∀ x, (acts l (0, [])).2.head? = some x → ∃ y, l.head? = some y ∧ y.1 = x.1 := by
  induction l with
  | nil => exact ⟨rfl, fun x hx => by cases hx⟩
  | cons x l ih =>
    obtain ⟨h1, h2⟩ := ih h.tail (fun y hy => hr y (List.mem_cons_of_mem _ hy))
    have hf : Free x.1 (acts l (0, [])).2 := by
      intro y hy e
      obtain ⟨t, ht, hty⟩ := h2 y hy
      exact h.free t ht (hty.trans e)
    show (act x.1 x.2 (acts l (0, []))).2.length = _ ∧ ∀ y, (act x.1 x.2 (acts l (0, []))).2.head? = some y → _
    unfold act
    rw [show top x.1 (acts l (0, [])) = (zp (acts l (0, [])).1, (acts l (0, [])).2) from top_free hf]
    have hnp : ¬ Pw (mul x.2 (zp (acts l (0, [])).1)) := fun hp => h.head (hp.of_right (hr x (List.mem_cons_self ..)))
    unfold push
    rw [if_neg hnp]
    refine ⟨by simp [h1], fun y hy => ?_⟩
    cases hy
    exact ⟨x, rfl, rfl⟩
end Am
end Go.Proofs.YtamgimdjnmcpaaaGreat
namespace Go.Proofs.YtamgimdjnmcpaaaGreat
open Word

namespace Dn
/-- Groups of one and two handles; their relators; the words of their letters. -/
def Gr (g : Int) : Prop := 1 ≤ g ∧ g ≤ 2
instance (g : Int) : Decidable (Gr g) := by unfold Gr; exact inferInstance
def rel (g : Int) : List Int := if g = 1 then [1, 2, -1, -2] else if g = 2 then [1, 2, -1, -2, 3, 4, -3, -4] else []
def Lets (g : Int) (l : List Int) : Prop := ∀ x ∈ l, (x.natAbs : Int) ≤ 2 * g
instance (g : Int) (l : List Int) : Decidable (Lets g l) := by unfold Lets; exact inferInstance
def Fit (g : Int) (l : List Int) : Prop := Gr g ∧ IsW l ∧ Lets g l
instance (g : Int) (l : List Int) : Decidable (Fit g l) := by unfold Fit; exact inferInstance
theorem gr_cases {g : Int} (h : Gr g) : g = 1 ∨ g = 2 := by unfold Gr at h; omega
theorem rel_not {g : Int} (h : ¬ Gr g) : rel g = [] := by
  unfold Gr at h; unfold rel; rw [if_neg (by omega), if_neg (by omega)]
theorem rel_len {g : Int} (h : Gr g) : ((rel g).length : Int) = 4 * g := by rcases gr_cases h with rfl | rfl <;> decide
theorem rel_w (g : Int) : IsW (rel g) := by
  by_cases h : Gr g
  · rcases gr_cases h with rfl | rfl <;> decide
  · rw [rel_not h]; decide
theorem rel_letters {g : Int} (h : Gr g) : ∀ x ∈ rel g, Letter x ∧ (x.natAbs : Int) ≤ 2 * g := by rcases gr_cases h with rfl | rfl <;> decide
theorem rel_len8 (g : Int) : (rel g).length ≤ 8 := by
  by_cases h : Gr g
  · rcases gr_cases h with rfl | rfl <;> decide
  · rw [rel_not h]; decide
/-- How many letters two words have in common from the first one on. -/
def lcp : List Int → List Int → Nat
  | x :: v, y :: r => if x = y then lcp v r + 1 else 0
  | _, _ => 0
theorem lcp_le_left : ∀ (v r : List Int), lcp v r ≤ v.length
  | [], _ => by simp [lcp]
  | _ :: _, [] => by simp [lcp]
  | x :: v, y :: r => by
    unfold lcp
    split
    · have := lcp_le_left v r; simp only [List.length_cons]; omega
    · omega
theorem lcp_le_right : ∀ (v r : List Int), lcp v r ≤ r.length
  | [], _ => by simp [lcp]
  | _ :: _, [] => by simp [lcp]
  | x :: v, y :: r => by
    unfold lcp
    split
    · have := lcp_le_right v r; simp only [List.length_cons]; omega
    · omega
theorem lcp_take : ∀ (v r : List Int), v.take (lcp v r) = r.take (lcp v r)
  | [], _ => by simp [lcp]
  | _ :: _, [] => by simp [lcp]
  | x :: v, y :: r => by
    unfold lcp
    split
    · rename_i h; subst h; simp only [List.take_succ_cons]; rw [lcp_take v r]
    · rfl
/-- Up to n they agree. -/
def Agree (v r : List Int) (n : Nat) : Prop := n ≤ v.length ∧ n ≤ r.length ∧ ∀ j, j < n → v[j]? = r[j]?
theorem Agree.zero (v r : List Int) : Agree v r 0 := ⟨Nat.zero_le _, Nat.zero_le _, fun j h => absurd h (by omega)⟩
theorem Agree.step {v r : List Int} {n : Nat} (h : Agree v r n) {x : Int} (hv : v[n]? = some x) (hr : r[n]? = some x) : Agree v r (n + 1) := by
  obtain ⟨h1, h2, h3⟩ := h
  refine ⟨(List.getElem?_eq_some_iff.1 hv).1, (List.getElem?_eq_some_iff.1 hr).1, fun j hj => ?_⟩
  by_cases e : j = n
  · subst e; rw [hv, hr]
  · exact h3 j (by omega)
theorem Agree.lcp : ∀ {v r : List Int} {n : Nat}, Agree v r n → (n = v.length ∨ n = r.length ∨ v[n]? ≠ r[n]?) → n = lcp v r
  | [], r, n, ⟨h1, _, _⟩, _ => by simp at h1; simp [Dn.lcp, h1]
  | x :: v, [], n, ⟨_, h1, _⟩, _ => by simp at h1; simp [Dn.lcp, h1]
  | x :: v, y :: r, 0, _, h => by
    unfold Dn.lcp
    rcases h with h | h | h
    · simp at h
    · simp at h
    · rw [if_neg (fun e => h (by simp [e]))]
  | x :: v, y :: r, n + 1, ⟨h1, h2, h3⟩, h => by
    have e : x = y := by simpa using h3 0 (by omega)
    unfold Dn.lcp
    rw [if_pos e]
    have := Agree.lcp (v := v) (r := r) (n := n) ⟨by simpa using h1, by simpa using h2, fun j hj => by simpa using h3 (j + 1) (by omega)⟩ (by simpa using h)
    omega
/-- The better of what was found and of r. -/
def pick (v : List Int) (p : Nat × List Int) (r : List Int) : Nat × List Int := if p.1 < lcp v r then (lcp v r, r) else p
def cand (g : Int) (t : Nat) : List Int := turn (if 4 * g ≤ (t : Int) then inv (rel g) else rel g) t
def bestTo (g : Int) (v : List Int) (t : Nat) : Nat × List Int := ((List.range t).map (cand g)).foldl (pick v) (0, [])
theorem bestTo_zero (g : Int) (v : List Int) : bestTo g v 0 = (0, []) := rfl
theorem bestTo_succ (g : Int) (v : List Int) (t : Nat) : bestTo g v (t + 1) = pick v (bestTo g v t) (cand g t) := by
  unfold bestTo; rw [List.range_succ, List.map_append, List.foldl_append]; rfl
theorem pick_le (v : List Int) {p : Nat × List Int} (r : List Int) (h : p.1 ≤ v.length ∧ p.1 ≤ p.2.length) : (pick v p r).1 ≤ v.length ∧ (pick v p r).1 ≤ (pick v p r).2.length := by
  unfold pick; split
  · exact ⟨lcp_le_left v r, lcp_le_right v r⟩
  · exact h
theorem fold_le (v : List Int) (L : List (List Int)) : ∀ {p : Nat × List Int}, (p.1 ≤ v.length ∧ p.1 ≤ p.2.length) → (L.foldl (pick v) p).1 ≤ v.length ∧ (L.foldl (pick v) p).1 ≤ (L.foldl (pick v) p).2.length := by
  induction L with
  | nil => intro p h; exact h
  | cons r L ih => intro p h; exact ih (pick_le v r h)
theorem bestTo_le (g : Int) (v : List Int) (t : Nat) : (bestTo g v t).1 ≤ v.length ∧ (bestTo g v t).1 ≤ (bestTo g v t).2.length :=
  fold_le v _ ⟨Nat.zero_le _, Nat.zero_le _⟩
theorem fold_mem (v : List Int) (L : List (List Int)) : ∀ {p : Nat × List Int}, p.2 = [] ∨ p.2 ∈ L → (L.foldl (pick v) p).2 = [] ∨ (L.foldl (pick v) p).2 ∈ L := by
  have key : ∀ (L M : List (List Int)), (∀ r ∈ L, r ∈ M) → ∀ {p : Nat × List Int}, p.2 = [] ∨ p.2 ∈ M → (L.foldl (pick v) p).2 = [] ∨ (L.foldl (pick v) p).2 ∈ M := by
    intro L
    induction L with
    | nil => intro M _ p h; exact h
    | cons r L ih =>
      intro M hM p h
      refine ih M (fun s hs => hM s (List.mem_cons_of_mem _ hs)) ?_
      unfold pick; split
      · exact Or.inr (hM r (List.mem_cons_self ..))
      · exact h
  intro p h
  exact key L L (fun _ h => h) h
theorem bestTo_mem (g : Int) (v : List Int) (t : Nat) : (bestTo g v t).2 = [] ∨ ∃ k, k < t ∧ (bestTo g v t).2 = cand g k := by
  rcases fold_mem v ((List.range t).map (cand g)) (p := (0, [])) (Or.inl rfl) with h | h
  · exact Or.inl h
  · obtain ⟨k, hk, e⟩ := List.mem_map.1 h
    exact Or.inr ⟨k, List.mem_range.1 hk, e.symm⟩
theorem inv_letters {p : Int → Prop} (hn : ∀ x, p x → p (-x)) {l : List Int} (h : ∀ x ∈ l, p x) : ∀ x ∈ inv l, p x := by
  intro x hx
  unfold inv at hx
  rw [List.mem_reverse, List.mem_map] at hx
  obtain ⟨y, hy, rfl⟩ := hx
  exact hn y (h y hy)
def Let (g : Int) (x : Int) : Prop := Letter x ∧ (x.natAbs : Int) ≤ 2 * g
theorem let_neg {g x : Int} (h : Let g x) : Let g (-x) := by
  obtain ⟨⟨h0, h1, h2⟩, h3⟩ := h
  exact ⟨⟨by omega, by omega, by omega⟩, by omega⟩
theorem cand_letters {g : Int} (h : Gr g) (t : Nat) : ∀ x ∈ cand g t, Let g x := by
  intro x hx
  unfold cand at hx
  have := turn_mem hx
  split at this
  · exact inv_letters (p := Let g) (fun _ => let_neg) (rel_letters h) x this
  · exact rel_letters h x this
theorem cand_len (g : Int) (t : Nat) : (cand g t).length = (rel g).length := by
  unfold cand; rw [turn_len]; split
  · rw [inv_len]
  · rfl
/-- One place: the word with the part there replaced, if the part is long enough. -/
def out (g : Int) (w : List Int) (i : Nat) (p : Nat × List Int) : List Int := red (w.take i ++ (inv (p.2.drop p.1) ++ w.drop (i + p.1)))
def stepAt (g : Int) (w : List Int) (i : Nat) : Option (List Int) :=
  if 2 * g < ((bestTo g (w.drop i) (8 * g).toNat).1 : Int) then some (out g w i (bestTo g (w.drop i) (8 * g).toNat)) else none
def step (g : Int) (w : List Int) : Option (List Int) := (List.range w.length).findSome? (stepAt g w)
theorem step_at {g : Int} {w r : List Int} {i : Nat} (hi : i < w.length) (h : stepAt g w i = some r) (hno : ∀ j, j < i → stepAt g w j = none) : step g w = some r := by
  unfold step
  rw [show w.length = i + (w.length - i) from by omega, List.range_add, List.findSome?_append, List.findSome?_eq_none_iff.2 (fun j hj => hno j (List.mem_range.1 hj))]
  rw [show w.length - i = (w.length - i - 1) + 1 from by omega, List.range_succ_eq_map]
  simp [h]
theorem step_no {g : Int} {w : List Int} (hno : ∀ j, j < w.length → stepAt g w j = none) : step g w = none := by
  unfold step
  exact List.findSome?_eq_none_iff.2 (fun j hj => hno j (List.mem_range.1 hj))
theorem step_some {g : Int} {w r : List Int} (h : step g w = some r) : ∃ i, i < w.length ∧ stepAt g w i = some r := by
  unfold step at h
  obtain ⟨i, hi, e⟩ := List.exists_of_findSome?_eq_some h
  exact ⟨i, List.mem_range.1 hi, e⟩
theorem step_none {g : Int} {w : List Int} (h : step g w = none) {i : Nat} (hi : i < w.length) : stepAt g w i = none := by
  unfold step at h
  exact List.findSome?_eq_none_iff.1 h i (List.mem_range.2 hi)
theorem out_raw {g : Int} (hg : Gr g) {w : List Int} {i : Nat} (hi : i ≤ w.length) (h : 2 * g < ((bestTo g (w.drop i) (8 * g).toNat).1 : Int)) :
    (w.take i ++ (inv ((bestTo g (w.drop i) (8 * g).toNat).2.drop (bestTo g (w.drop i) (8 * g).toNat).1) ++ w.drop (i + (bestTo g (w.drop i) (8 * g).toNat).1))).length < w.length := by
  have hle := bestTo_le g (w.drop i) (8 * g).toNat
  have hmem := bestTo_mem g (w.drop i) (8 * g).toNat
  generalize bestTo g (w.drop i) (8 * g).toNat = p at *
  have hl : (p.2.length : Int) ≤ 4 * g := by
    rcases hmem with e | ⟨k, _, e⟩
    · rw [e]; unfold Gr at hg; simp; omega
    · rw [e, cand_len, rel_len hg]; omega
  rw [List.length_drop] at hle
  simp only [List.length_append, List.length_take, List.length_drop, inv_len]
  unfold Gr at hg
  omega
theorem stepAt_len {g : Int} (hg : Gr g) {w r : List Int} {i : Nat} (hi : i ≤ w.length) (h : stepAt g w i = some r) : r.length < w.length := by
  unfold stepAt at h
  split at h
  · rename_i hb
    cases h
    have := out_raw hg hi hb
    have := red_len (w.take i ++ (inv ((bestTo g (w.drop i) (8 * g).toNat).2.drop (bestTo g (w.drop i) (8 * g).toNat).1) ++ w.drop (i + (bestTo g (w.drop i) (8 * g).toNat).1)))
    unfold out; omega
  · cases h
theorem step_len {g : Int} (hg : Gr g) {w r : List Int} (h : step g w = some r) : r.length < w.length := by
  obtain ⟨i, hi, e⟩ := step_some h
  exact stepAt_len hg (by omega) e
theorem out_letters {g : Int} (hg : Gr g) {w : List Int} (hw : ∀ x ∈ w, Let g x) (i : Nat) : ∀ x ∈ w.take i ++ (inv ((bestTo g (w.drop i) (8 * g).toNat).2.drop (bestTo g (w.drop i) (8 * g).toNat).1) ++ w.drop (i + (bestTo g (w.drop i) (8 * g).toNat).1)), Let g x := by
  have hmem := bestTo_mem g (w.drop i) (8 * g).toNat
  generalize bestTo g (w.drop i) (8 * g).toNat = p at *
  intro x hx
  rcases List.mem_append.1 hx with h | h
  · exact hw x (List.mem_of_mem_take h)
  · rcases List.mem_append.1 h with h | h
    · refine inv_letters (p := Let g) (fun _ => let_neg) (fun y hy => ?_) x h
      have hy := List.mem_of_mem_drop hy
      rcases hmem with e | ⟨k, _, e⟩
      · rw [e] at hy; cases hy
      · rw [e] at hy; exact cand_letters hg k y hy
    · exact hw x (List.mem_of_mem_drop h)
theorem step_letters {g : Int} (hg : Gr g) {w r : List Int} (hw : ∀ x ∈ w, Let g x) (h : step g w = some r) : ∀ x ∈ r, Let g x := by
  obtain ⟨i, hi, e⟩ := step_some h
  unfold stepAt at e
  split at e
  · cases e
    exact red_mem (out_letters hg hw i)
  · cases e
theorem step_red {g : Int} {w r : List Int} (h : step g w = some r) : red r = r := by
  obtain ⟨i, hi, e⟩ := step_some h
  unfold stepAt at e
  split at e
  · cases e
    exact Am.red_red _
  · cases e
/-- As many steps as there are. -/
def dehnN (g : Int) : Nat → List Int → List Int
  | 0, w => w
  | n + 1, w => match step g w with
    | some r => dehnN g n r
    | none => w
theorem dehnN_none {g : Int} {w : List Int} (h : step g w = none) : ∀ n, dehnN g n w = w
  | 0 => rfl
  | n + 1 => by unfold dehnN; rw [h]
theorem dehnN_some {g : Int} {w r : List Int} (h : step g w = some r) (n : Nat) : dehnN g (n + 1) w = dehnN g n r := by
  show (match step g w with | some r => dehnN g n r | none => w) = _
  rw [h]
theorem dehnN_more {g : Int} (hg : Gr g) : ∀ (n m : Nat) (w : List Int), w.length ≤ n → w.length ≤ m → dehnN g n w = dehnN g m w := by
  intro n
  induction n with
  | zero =>
    intro m w hn _
    obtain rfl := List.eq_nil_of_length_eq_zero (by omega : w.length = 0)
    exact (dehnN_none rfl m).symm
  | succ n ih =>
    intro m w hn hm
    cases h : step g w with
    | none => rw [dehnN_none h, dehnN_none h]
    | some r =>
      have := step_len hg h
      cases m with
      | zero => omega
      | succ m => rw [dehnN_some h, dehnN_some h]; exact ih m r (by omega) (by omega)
def dehn (g : Int) (w : List Int) : List Int := dehnN g w.length w
theorem dehn_none {g : Int} {w : List Int} (h : step g w = none) : dehn g w = w := dehnN_none h _
theorem dehn_some {g : Int} (hg : Gr g) {w r : List Int} (h : step g w = some r) : dehn g w = dehn g r := by
  have hl := step_len hg h
  unfold dehn
  rw [show w.length = (w.length - 1) + 1 from by omega, dehnN_some h]
  exact dehnN_more hg _ _ r (by omega) (Nat.le_refl _)
theorem dehn_len {g : Int} (hg : Gr g) : ∀ (n : Nat) (w : List Int), w.length ≤ n → (dehn g w).length ≤ w.length := by
  intro n
  induction n with
  | zero => intro w hn; rw [dehn_none (step_no fun j hj => by omega)]; exact Nat.le_refl _
  | succ n ih =>
    intro w hn
    cases h : step g w with
    | none => rw [dehn_none h]; exact Nat.le_refl _
    | some r =>
      have hl := step_len hg h
      rw [dehn_some hg h]
      have := ih r (by omega); omega
/-- The sum of the letters of one kind. -/
def wt (j : Nat) (x : Int) : Int := if x = (j : Int) + 1 then 1 else if x = -((j : Int) + 1) then -1 else 0
def tot (j : Nat) (l : List Int) : Int := (l.map (wt j)).sum
theorem wt_neg (j : Nat) (x : Int) : wt j (-x) = - wt j x := by
  unfold wt
  by_cases h1 : x = (j : Int) + 1
  · rw [if_neg (by omega), if_pos (by omega), if_pos h1]
  · by_cases h2 : x = -((j : Int) + 1)
    · rw [if_pos (by omega), if_neg h1, if_pos h2]; rfl
    · rw [if_neg (by omega), if_neg (by omega), if_neg h1, if_neg h2]; rfl
theorem tot_append (j : Nat) (a b : List Int) : tot j (a ++ b) = tot j a + tot j b := by simp [tot]
theorem tot_one (j : Nat) (x : Int) : tot j [x] = wt j x := by simp [tot]
theorem tot_cons (j : Nat) (x : Int) (l : List Int) : tot j (x :: l) = wt j x + tot j l := by simp [tot]
theorem tot_take {l : List Int} {i : Nat} (h : i < l.length) (j : Nat) : tot j (l.take (i + 1)) = tot j (l.take i) + wt j l[i] := by
  rw [List.take_succ_eq_append_getElem h, tot_append, tot_one]
theorem tot_inv (j : Nat) (l : List Int) : tot j (inv l) = - tot j l := by
  induction l with
  | nil => rfl
  | cons x l ih => rw [inv_cons, tot_append, ih, tot_one, wt_neg, tot_cons]; omega
theorem tot_bound (j : Nat) (l : List Int) : -(l.length : Int) ≤ tot j l ∧ tot j l ≤ l.length := by
  induction l with
  | nil => simp [tot]
  | cons x l ih =>
    rw [tot_cons]
    have : -1 ≤ wt j x ∧ wt j x ≤ 1 := by unfold wt; split <;> (try split) <;> omega
    simp only [List.length_cons]; omega
theorem tot_far {g : Int} {l : List Int} (h : Lets g l) {j : Nat} (hj : 2 * g ≤ (j : Int)) : tot j l = 0 := by
  induction l with
  | nil => rfl
  | cons x l ih =>
    rw [tot_cons, ih (fun y hy => h y (List.mem_cons_of_mem _ hy))]
    have := h x (List.mem_cons_self ..)
    have : wt j x = 0 := by unfold wt; rw [if_neg (by omega), if_neg (by omega)]
    omega
theorem sumPut_at {s : List Int} (hs : s.length = 8) {x : Int} (hx : Letter x) {j : Nat} (hj : j < 8) : (sumPut s x).getD j 0 = s.getD j 0 + wt j x := by
  obtain ⟨h0, h1, h2⟩ := hx
  unfold sumPut wt
  by_cases hp : 0 < x
  · rw [if_pos hp]
    by_cases he : (x - 1).toNat = j
    · rw [if_pos (by omega), List.getD_eq_getElem?_getD, List.getElem?_set, if_pos he, if_pos (by omega), he]; rfl
    · rw [if_neg (by omega), if_neg (by omega), List.getD_eq_getElem?_getD, List.getElem?_set, if_neg he, List.getD_eq_getElem?_getD]; omega
  · rw [if_neg hp]
    by_cases he : (-x - 1).toNat = j
    · rw [if_neg (by omega), if_pos (by omega), List.getD_eq_getElem?_getD, List.getElem?_set, if_pos he, if_pos (by omega), he]; rfl
    · rw [if_neg (by omega), if_neg (by omega), List.getD_eq_getElem?_getD, List.getElem?_set, if_neg he, List.getD_eq_getElem?_getD]; omega
theorem sums_at {l : List Int} (hl : ∀ x ∈ l, Letter x) {j : Nat} (hj : j < 8) : (sums l).getD j 0 = tot j l := by
  have key : ∀ (m s : List Int), (∀ x ∈ m, Letter x) → s.length = 8 → (m.foldl sumPut s).getD j 0 = s.getD j 0 + tot j m := by
    intro m
    induction m with
    | nil => intro s _ _; simp [tot]
    | cons x m ih =>
      intro s hm hs
      rw [List.foldl_cons, ih _ (fun y hy => hm y (List.mem_cons_of_mem _ hy)) (by rw [sumPut_len, hs]), sumPut_at hs (hm x (List.mem_cons_self ..)) hj, tot_cons]; omega
  have := key l (List.replicate 8 0) hl (by simp)
  rw [sums, this]
  have h0 : (List.replicate 8 (0 : Int)).getD j 0 = 0 := by
    rw [List.getD_eq_getElem?_getD, List.getElem?_replicate]; split <;> rfl
  rw [h0]; omega
theorem sums_list {l : List Int} (hl : ∀ x ∈ l, Letter x) : sums l = (List.range 8).map fun j => tot j l := by
  apply List.ext_getElem
  · rw [sums_len]; simp
  · intro j h1 h2
    have hj : j < 8 := by rw [sums_len] at h1; exact h1
    have := sums_at hl hj
    rw [List.getD_eq_getElem?_getD, List.getElem?_eq_getElem h1] at this
    simpa using this
/-- Trivial words. -/
def Triv (g : Int) (l : List Int) : Prop := if g = 2 then dehn g (red l) = [] else tot 0 l = 0 ∧ tot 1 l = 0
instance (g : Int) (l : List Int) : Decidable (Triv g l) := by unfold Triv; exact inferInstance
/-- The answers. -/
def stepW (g : Int) (l : List Int) : Option (List Int) := if Fit g l then step g (red l) else none
def dehnW (g : Int) (l : List Int) : List Int := if Fit g l then dehn g (red l) else []
def TrivW (g : Int) (l : List Int) : Prop := Fit g l ∧ Triv g l
instance (g : Int) (l : List Int) : Decidable (TrivW g l) := by unfold TrivW; exact inferInstance
def EqualW (g : Int) (v w : List Int) : Prop := Fit g v ∧ Fit g w ∧ v.length + w.length ≤ 24 ∧ Triv g (v ++ inv w)
instance (g : Int) (v w : List Int) : Decidable (EqualW g v w) := by unfold EqualW; exact inferInstance
def homW (g : Int) (l : List Int) : List Int := if Fit g l then (sums l).take (2 * g).toNat else []
def CommW (g : Int) (v w : List Int) : Prop := Fit g v ∧ Fit g w ∧ 2 * (v.length + w.length) ≤ 24 ∧ Triv g ((v ++ w) ++ inv (w ++ v))
instance (g : Int) (v w : List Int) : Decidable (CommW g v w) := by unfold CommW; exact inferInstance
theorem Fit.lets {g : Int} {l : List Int} (h : Fit g l) : ∀ x ∈ l, Let g x := fun x hx => ⟨h.2.1.1 x hx, h.2.2 x hx⟩
theorem Fit.mk {g : Int} {l : List Int} (hg : Gr g) (h : ∀ x ∈ l, Let g x) (hl : l.length ≤ 24) : Fit g l := ⟨hg, ⟨fun x hx => (h x hx).1, hl⟩, fun x hx => (h x hx).2⟩
theorem Fit.red {g : Int} {l : List Int} (h : Fit g l) : Fit g (red l) := Fit.mk h.1 (red_mem h.lets) (Nat.le_trans (red_len l) h.2.1.2)
theorem Fit.inv {g : Int} {l : List Int} (h : Fit g l) : Fit g (inv l) := Fit.mk h.1 (inv_letters (p := Let g) (fun _ => let_neg) h.lets) (by rw [inv_len]; exact h.2.1.2)
theorem fit_append {g : Int} {v w : List Int} : Fit g (v ++ w) ↔ Fit g v ∧ Fit g w ∧ v.length + w.length ≤ 24 := by
  constructor
  · intro h
    have hl := h.2.1.2
    rw [List.length_append] at hl
    exact ⟨Fit.mk h.1 (fun x hx => h.lets x (List.mem_append_left _ hx)) (by omega), Fit.mk h.1 (fun x hx => h.lets x (List.mem_append_right _ hx)) (by omega), hl⟩
  · rintro ⟨h1, h2, h3⟩
    refine Fit.mk h1.1 (fun x hx => ?_) (by rw [List.length_append]; exact h3)
    rcases List.mem_append.1 hx with h | h
    · exact h1.lets x h
    · exact h2.lets x h
/-- The two ways around on which a letter stands. -/
def around (g : Int) (x : Int) (back : Bool) : List Int := turn (if back then inv (rel g) else rel g) ((if back then inv (rel g) else rel g).idxOf x : Nat)
theorem lcp_head {x y : Int} {v r : List Int} (h : x ≠ y) : lcp (x :: v) (y :: r) = 0 := by unfold lcp; rw [if_neg h]
theorem pick_zero {v : List Int} {p : Nat × List Int} {r : List Int} (h : lcp v r = 0) : pick v p r = p := by unfold pick; rw [if_neg (by omega)]
theorem fold_filter (x : Int) (v : List Int) (L : List (List Int)) : ∀ p, L.foldl (pick (x :: v)) p = (L.filter fun r => r.head? == some x).foldl (pick (x :: v)) p := by
  induction L with
  | nil => intro p; rfl
  | cons r L ih =>
    intro p
    rw [List.foldl_cons, ih, List.filter_cons]
    by_cases h : r.head? = some x
    · rw [if_pos (by simp [h])]; rfl
    · rw [if_neg (by simpa using h)]
      congr 1
      refine pick_zero ?_
      cases r with
      | nil => rfl
      | cons y r => exact lcp_head (fun e => h (by simp [e]))
theorem around_best {g x : Int} (hg : Gr g) (hx : Let g x) (v : List Int) : bestTo g (x :: v) (8 * g).toNat = pick (x :: v) (pick (x :: v) (0, []) (around g x false)) (around g x true) := by
  unfold bestTo
  rw [fold_filter]
  have : ((List.range (8 * g).toNat).map (cand g)).filter (fun r => r.head? == some x) = [around g x false, around g x true] := by
    obtain ⟨⟨h0, _, _⟩, h3⟩ := hx
    rcases gr_cases hg with rfl | rfl
    · have : x = -2 ∨ x = -1 ∨ x = 1 ∨ x = 2 := by omega
      rcases this with rfl | rfl | rfl | rfl <;> decide
    · have : x = -4 ∨ x = -3 ∨ x = -2 ∨ x = -1 ∨ x = 1 ∨ x = 2 ∨ x = 3 ∨ x = 4 := by omega
      rcases this with rfl | rfl | rfl | rfl | rfl | rfl | rfl | rfl <;> decide
  rw [this]; rfl
end Dn
end Go.Proofs.YtamgimdjnmcpaaaGreat
