/-
  Rotations of graphs: darts that are laid behind others make each rotation once; rows that count.
-/
import Derived.Test.YtodgongemoabiaaBase
import Derived.Test.YtodgongemoabiaaSlice
import Derived.Test.YtodgongemoabiaaInts
import Derived.Test.YtodgongemoabiaaGrid
import Derived.Test.YtodgongemoabiaaClass
import Derived.Test.YtodgongemoabiaaLab
import Derived.Test.YtodgongemoabiaaMap
import Derived.Test.YtodgongemoabiaaMapTopo
import Derived.Test.YtodgongemoabiaaMapTopo2
import Derived.Test.YtodgongemoabiaaMapTopo3
import Derived.Test.YtodgongemoabiaaGraph
namespace Go.Proofs.Ytodgongemoabiaa
open Go.RowKit

namespace Gr
open Mp (upd behind)
/-- Each is followed by the next. -/
def lnk (f : Nat → Nat) : List Nat → Prop
  | [] => True
  | [_] => True
  | a :: b :: t => f a = b ∧ lnk f (b :: t)
theorem lnk_app {f : Nat → Nat} {b : Nat} {t : List Nat} : ∀ {p : List Nat}, lnk f (p ++ b :: t) ↔ (lnk f (p ++ [b]) ∧ lnk f (b :: t))
  | [] => by simp [lnk]
  | [a] => by simp [lnk]
  | a :: c :: p => by
    have := lnk_app (f := f) (b := b) (t := t) (p := c :: p)
    simp only [List.cons_append, lnk] at this ⊢
    rw [this, and_assoc]
theorem lnk_congr {f g : Nat → Nat} {h : Nat} : ∀ {l : List Nat}, (∀ a ∈ l, g a = f a) → lnk f (l ++ [h]) → lnk g (l ++ [h])
  | [], _, _ => by simp [lnk]
  | [a], he, hl => by
    simp only [List.cons_append, List.nil_append, lnk] at hl ⊢
    exact ⟨by rw [he a (by simp)]; exact hl.1, trivial⟩
  | a :: c :: l, he, hl => by
    have ih := lnk_congr (h := h) (f := f) (g := g) (l := c :: l) (fun x hx => he x (by simp at hx ⊢; exact Or.inr hx))
    simp only [List.cons_append, lnk] at hl ih ⊢
    exact ⟨by rw [he a (by simp)]; exact hl.1, ih hl.2⟩
theorem lnk_get {f : Nat → Nat} : ∀ {l : List Nat}, lnk f l → ∀ {k a b : Nat}, l[k]? = some a → l[k + 1]? = some b → f a = b
  | [], _, k, a, b, h1, _ => by simp at h1
  | [x], _, k, a, b, h1, h2 => by simp at h2
  | x :: y :: l, h, k, a, b, h1, h2 => by
    cases k with
    | zero =>
      simp only [List.getElem?_cons_zero, Option.some.injEq, List.getElem?_cons_succ] at h1 h2
      subst h1; subst h2
      exact h.1
    | succ k => exact lnk_get h.2 (k := k) (by simpa using h1) (by simpa using h2)
/-- The darts follow each other around. -/
def Ring (f : Nat → Nat) (l : List Nat) : Prop := lnk f (l ++ l.take 1)
theorem Ring.nil (f : Nat → Nat) : Ring f [] := trivial
theorem Ring.one {f : Nat → Nat} {d : Nat} (h : f d = d) : Ring f [d] := ⟨h, trivial⟩
theorem Ring.congr {f g : Nat → Nat} {l : List Nat} (h : Ring f l) (he : ∀ a ∈ l, g a = f a) : Ring g l := by
  cases l with
  | nil => trivial
  | cons a l => exact lnk_congr (h := a) he h
theorem Ring.insert {f : Nat → Nat} {p s : List Nat} {b x : Nat} (h : Ring f (p ++ b :: s)) (hn : (p ++ b :: s).Nodup) (hx : x ∉ p ++ b :: s) : Ring (behind f x b) (p ++ b :: x :: s) := by
  obtain ⟨z, h1, h2⟩ : ∃ z, (p ++ b :: s).take 1 = [z] ∧ (p ++ b :: x :: s).take 1 = [z] := by
    cases p with
    | nil => exact ⟨b, rfl, rfl⟩
    | cons a p => exact ⟨a, rfl, rfl⟩
  unfold Ring at h ⊢
  rw [h1] at h
  rw [h2]
  rw [List.append_assoc, List.cons_append] at h ⊢
  rw [lnk_app] at h ⊢
  have hb : ∀ a ∈ p ++ s, a ≠ b ∧ a ≠ x := fun a ha => by
    rw [List.nodup_append] at hn
    constructor
    · rintro rfl
      rcases List.mem_append.1 ha with ha | ha
      · exact hn.2.2 a ha a (by simp) rfl
      · exact (List.nodup_cons.1 hn.2.1).1 ha
    · rintro rfl
      refine hx ?_
      rcases List.mem_append.1 ha with ha | ha
      · exact List.mem_append.2 (Or.inl ha)
      · exact List.mem_append.2 (Or.inr (List.mem_cons_of_mem _ ha))
  have hxb : x ≠ b := fun e => hx (by rw [e]; simp)
  have hbf : ∀ a, a ≠ b → a ≠ x → behind f x b a = f a := fun a h1 h2 => by unfold behind upd; rw [if_neg h1, if_neg h2]
  refine ⟨lnk_congr (fun a ha => hbf a (hb a (List.mem_append.2 (Or.inl ha))).1 (hb a (List.mem_append.2 (Or.inl ha))).2) h.1, ?_⟩
  have h3 := h.2
  obtain ⟨y, t, ht⟩ : ∃ y t, s ++ [z] = y :: t := by cases s with
    | nil => exact ⟨_, _, rfl⟩
    | cons a s => exact ⟨_, _, rfl⟩
  rw [ht] at h3
  rw [List.cons_append, ht]
  refine ⟨by simp [behind, upd], ?_, ?_⟩
  · have := h3.1
    unfold behind upd; rw [if_neg hxb, if_pos rfl]; exact this
  · have h4 := h3.2
    rw [← ht] at h4 ⊢
    exact lnk_congr (fun a ha => hbf a (hb a (List.mem_append.2 (Or.inr ha))).1 (hb a (List.mem_append.2 (Or.inr ha))).2) h4
theorem Ring.next {f : Nat → Nat} {l : List Nat} (h : Ring f l) {k : Nat} (hk : k < l.length) : f (l.getD k 0) = l.getD ((k + 1) % l.length) 0 := by
  have h1 : (l ++ l.take 1)[k]? = some (l.getD k 0) := by
    rw [List.getElem?_append_left hk, List.getD_eq_getElem?_getD, List.getElem?_eq_getElem hk]; rfl
  refine lnk_get h h1 ?_
  by_cases e : k + 1 = l.length
  · rw [e, Nat.mod_self, List.getElem?_append_right (by omega), Nat.sub_self]
    cases l with
    | nil => simp at hk
    | cons a l => rfl
  · rw [Nat.mod_eq_of_lt (by omega), List.getElem?_append_left (by omega), List.getD_eq_getElem?_getD, List.getElem?_eq_getElem (show k + 1 < l.length by omega)]; rfl

/-- The darts of l are made to follow each other around, the first i of them. -/
def ringTo (m : Nat → Nat) (l : List Nat) : Nat → Nat → Nat
  | 0 => m
  | i + 1 => upd (ringTo m l i) (l.getD i 0) (l.getD ((i + 1) % l.length) 0)
def ringF (m : Nat → Nat) (l : List Nat) : Nat → Nat := ringTo m l l.length
theorem ringTo_out {m : Nat → Nat} {l : List Nat} {d : Nat} (hd : d ∉ l) : ∀ {i : Nat}, i ≤ l.length → ringTo m l i d = m d
  | 0, _ => rfl
  | i + 1, h => by
    unfold ringTo upd
    have : d ≠ l.getD i 0 := by
      rintro rfl
      apply hd
      rw [List.getD_eq_getElem?_getD, List.getElem?_eq_getElem (by omega)]
      exact List.getElem_mem _
    rw [if_neg this]
    exact ringTo_out hd (by omega)
theorem nodup_getD {l : List Nat} (h : l.Nodup) {i j : Nat} (hi : i < l.length) (hj : j < l.length) (e : l.getD i 0 = l.getD j 0) : i = j := by
  rw [List.getD_eq_getElem?_getD, List.getD_eq_getElem?_getD, List.getElem?_eq_getElem hi, List.getElem?_eq_getElem hj] at e
  have e' : l[i] = l[j] := e
  have hp := List.pairwise_iff_getElem.1 (List.nodup_iff_pairwise_ne.1 h)
  rcases Nat.lt_trichotomy i j with h4 | h4 | h4
  · exact absurd e' (hp i j hi hj h4)
  · exact h4
  · exact absurd e'.symm (hp j i hj hi h4)
theorem ringTo_in {m : Nat → Nat} {l : List Nat} (hn : l.Nodup) {k : Nat} : ∀ {i : Nat}, i ≤ l.length → k < i → ringTo m l i (l.getD k 0) = l.getD ((k + 1) % l.length) 0
  | 0, _, h => by omega
  | i + 1, h, hk => by
    unfold ringTo upd
    by_cases e : k = i
    · subst e; rw [if_pos rfl]
    · rw [if_neg (fun h' => e (nodup_getD hn (by omega) (by omega) h'))]
      exact ringTo_in hn (by omega) (by omega)
theorem mem_getD {l : List Nat} {d : Nat} (h : d ∈ l) : ∃ k, k < l.length ∧ l.getD k 0 = d := by
  obtain ⟨k, hk, rfl⟩ := List.getElem_of_mem h
  exact ⟨k, hk, by rw [List.getD_eq_getElem?_getD, List.getElem?_eq_getElem hk]; rfl⟩
theorem getD_mem {l : List Nat} {k : Nat} (h : k < l.length) : l.getD k 0 ∈ l := by
  rw [List.getD_eq_getElem?_getD, List.getElem?_eq_getElem h]; exact List.getElem_mem h
/-- What makes darts follow each other around is told by their ring. -/
theorem ringF_of {f m : Nat → Nat} {l : List Nat} (hn : l.Nodup) (h : Ring f l) (ho : ∀ d, d ∉ l → f d = m d) : ringF m l = f := by
  funext d
  by_cases hd : d ∈ l
  · obtain ⟨k, hk, rfl⟩ := mem_getD hd
    rw [h.next hk]
    exact ringTo_in hn (Nat.le_refl _) hk
  · rw [ho d hd]; exact ringTo_out hd (Nat.le_refl _)
theorem ringF_out {m : Nat → Nat} {l : List Nat} {d : Nat} (hd : d ∉ l) : ringF m l d = m d := ringTo_out hd (Nat.le_refl _)
theorem ringF_in {m m' : Nat → Nat} {l : List Nat} (hn : l.Nodup) {d : Nat} (hd : d ∈ l) : ringF m l d = ringF m' l d := by
  obtain ⟨k, hk, rfl⟩ := mem_getD hd
  unfold ringF
  rw [ringTo_in hn (Nat.le_refl _) hk, ringTo_in hn (Nat.le_refl _) hk]
theorem ringF_lt {m : Nat → Nat} {l : List Nat} (hn : l.Nodup) {d n : Nat} (hl : ∀ x ∈ l, x < n) (hm : m d < n) : ringF m l d < n := by
  by_cases hd : d ∈ l
  · obtain ⟨k, hk, rfl⟩ := mem_getD hd
    unfold ringF
    rw [ringTo_in hn (Nat.le_refl _) hk]
    exact hl _ (getD_mem (Nat.mod_lt _ (by omega)))
  · rw [ringF_out hd]; exact hm

/-- A dart is laid behind another, or stays alone. -/
def ins (f : Nat → Nat) (d : Nat) : Option Nat → Nat → Nat
  | none => f
  | some b => behind f d b
/-- The first rotation of the darts less than i. -/
def fr (u : Nat → Nat) : Nat → Nat → Nat
  | 0 => id
  | i + 1 => ins (fr u i) i (at7 u i (u i)).getLast?
theorem fr_inv (u : Nat → Nat) : ∀ i, (∀ v, Ring (fr u i) (at7 u i v)) ∧ ∀ d, i ≤ d → fr u i d = d
  | 0 => ⟨fun v => trivial, fun d _ => rfl⟩
  | i + 1 => by
    obtain ⟨h1, h2⟩ := fr_inv u i
    have hmem : ∀ v, ∀ a ∈ at7 u i v, a < i := fun v a ha => (at7_mem.1 ha).1
    rcases hL : (at7 u i (u i)).getLast? with _ | b
    · have he : fr u (i + 1) = fr u i := by show ins (fr u i) i (at7 u i (u i)).getLast? = _; rw [hL]; rfl
      rw [he]
      refine ⟨fun v => ?_, fun d hd => h2 d (by omega)⟩
      by_cases hv : u i = v
      · subst hv
        rw [at7_yes rfl, List.getLast?_eq_none_iff.1 hL]
        exact Ring.one (h2 i (Nat.le_refl _))
      · rw [at7_no hv]; exact h1 v
    · have he : fr u (i + 1) = behind (fr u i) i b := by show ins (fr u i) i (at7 u i (u i)).getLast? = _; rw [hL]; rfl
      rw [he]
      obtain ⟨p, hp⟩ : ∃ p, at7 u i (u i) = p ++ [b] := List.getLast?_eq_some_iff.1 hL
      have hbm : b ∈ at7 u i (u i) := by rw [hp]; simp
      have hb := at7_mem.1 hbm
      refine ⟨fun v => ?_, fun d hd => ?_⟩
      · by_cases hv : u i = v
        · subst hv
          rw [at7_yes rfl, hp, List.append_assoc]
          refine Ring.insert (s := []) (by rw [← hp]; exact h1 _) (by rw [← hp]; exact at7_nodup _ _ _) (by rw [← hp]; intro h; have := hmem _ _ h; omega)
        · rw [at7_no hv]
          refine (h1 v).congr fun a ha => ?_
          have ha' := at7_mem.1 ha
          unfold behind upd
          rw [if_neg (by rintro rfl; exact hv (by rw [← ha'.2, hb.2])), if_neg (by omega)]
      · unfold behind upd
        rw [if_neg (by omega), if_neg (by omega)]
        exact h2 d (by omega)
/-- The model's: ring after ring. -/
def fm (u : Nat → Nat) (n : Nat) : Nat → Nat → Nat
  | 0 => fun _ => 0
  | v + 1 => ringF (fm u n v) (at7 u n v)
theorem fm_eq (u : Nat → Nat) (n : Nat) : ∀ v d, d < n → u d < v → fm u n v d = fr u n d
  | 0, d, _, h => by omega
  | v + 1, d, hd, h => by
    show ringF (fm u n v) (at7 u n v) d = _
    by_cases e : u d = v
    · have hm : d ∈ at7 u n v := at7_mem.2 ⟨hd, e⟩
      rw [ringF_in (m' := fr u n) (at7_nodup _ _ _) hm, ringF_of (f := fr u n) (at7_nodup _ _ _) ((fr_inv u n).1 v) fun _ _ => rfl]
    · rw [ringF_out (fun h => e (at7_mem.1 h).2)]
      exact fm_eq u n v d hd (by omega)
theorem fm_lt {u : Nat → Nat} {n : Nat} (hn : 0 < n) : ∀ v d, fm u n v d < n
  | 0, d => hn
  | v + 1, d => ringF_lt (at7_nodup _ _ _) (fun x hx => (at7_mem.1 hx).1) (fm_lt hn v d)
def first (L : List (List Int)) : List Int := if IsG L then Cls.row (fr (vx L) (2 * L.length)) (2 * L.length) else []
theorem first_len (L : List (List Int)) : (first L).length ≤ 20 := by
  unfold first; split
  · rename_i h; rw [Cls.row_len]; have := h.2.2; omega
  · simp
end Gr
end Go.Proofs.Ytodgongemoabiaa
