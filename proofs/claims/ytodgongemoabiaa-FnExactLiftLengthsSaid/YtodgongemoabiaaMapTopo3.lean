/-
  The cycles of a map are counted; the genus of maps with an edge less, an edge more, a vertex on an edge.
-/
import Derived.Test.YtodgongemoabiaaBase
import Derived.Test.YtodgongemoabiaaClass
import Derived.Test.YtodgongemoabiaaTri
import Derived.Test.YtodgongemoabiaaTopo
import Derived.Test.YtodgongemoabiaaMap
import Derived.Test.YtodgongemoabiaaMapTopo
import Derived.Test.YtodgongemoabiaaMapTopo2
namespace Go.Proofs.Ytodgongemoabiaa

namespace Mp
open Cls
theorem sum_eq {α : Type} {u v : α → Nat} : ∀ {l : List α}, (∀ x ∈ l, u x ≤ v x) → (l.map u).sum = (l.map v).sum → ∀ x ∈ l, u x = v x
  | [], _, _ => fun _ h => by cases h
  | y :: l, h, e => by
    have hle : ∀ m : List α, (∀ x ∈ m, u x ≤ v x) → (m.map u).sum ≤ (m.map v).sum := by
      intro m
      induction m with
      | nil => intro _; exact Nat.le_refl _
      | cons z m ih =>
        intro hm
        have h1 := hm z (List.mem_cons_self ..)
        have h2 := ih fun x hx => hm x (List.mem_cons_of_mem _ hx)
        simp only [List.map_cons, List.sum_cons]; omega
    have h1 := h y (List.mem_cons_self ..)
    have h2 := hle l fun x hx => h x (List.mem_cons_of_mem _ hx)
    simp only [List.map_cons, List.sum_cons] at e
    intro x hx
    rcases List.mem_cons.1 hx with rfl | hx
    · omega
    · exact sum_eq (fun z hz => h z (List.mem_cons_of_mem _ hz)) (by omega) x hx
section
variable {f : Nat → Nat} {n : Nat}
/-- A set that f keeps is made of whole cycles. -/
theorem kept (h : Per f n) {T : Nat → Bool} (hT : ∀ x, x < n → T x = true → T (f x) = true) : ∀ x, x < n → T x = T (f x) := by
  intro x hx
  have hs := perm_sum h.perm (fun k => bit (T k))
  have := sum_eq (u := fun k => bit (T k)) (v := fun k => bit (T (f k))) (l := List.range n) (fun y hy => by
    have := hT y (List.mem_range.1 hy)
    show bit (T y) ≤ bit (T (f y))
    cases h1 : T y
    · simp [bit]
    · rw [this h1]; exact Nat.le_refl _) hs.symm x (List.mem_range.2 hx)
  have this : bit (T x) = bit (T (f x)) := this
  cases h1 : T x <;> cases h2 : T (f x) <;> simp [bit, h1, h2] at this ⊢
theorem kept_cls (h : Per f n) {T : Nat → Bool} (hT : ∀ x, x < n → T x = true → T (f x) = true) {x y : Nat} (e : mergeAll (arcs f n) x = mergeAll (arcs f n) y) : T x = T y :=
  ker_le (fun p hp => by obtain ⟨h1, h2⟩ := arcs_mem.1 hp; rw [h2]; exact kept h hT _ h1) e
/-- What the inner loop has walked. -/
structure Mid2 (f : Nat → Nat) (n : Nat) (s : Nat → Bool) (first : Nat) (c : List Nat) (d : Nat) : Prop where
  mid : Mid f n s first c d
  next : ∀ x ∈ c, f x ∈ c ∨ f x = d
  cls : ∀ x ∈ c, mergeAll (arcs f n) x = mergeAll (arcs f n) first
  dcls : mergeAll (arcs f n) d = mergeAll (arcs f n) first
  has : first ∈ c ∨ d = first
theorem Mid2.step (h : Per f n) {s : Nat → Bool} {first : Nat} {c : List Nat} {d : Nat} (m : Mid2 f n s first c d) (hd : seen s c d = false) : Mid2 f n s first (c ++ [d]) (f d) := by
  refine ⟨m.mid.step hd (h.lt _ m.mid.dlt), fun x hx => ?_, fun x hx => ?_, ?_, ?_⟩
  · rcases List.mem_append.1 hx with hx | hx
    · rcases m.next x hx with h1 | h1
      · exact Or.inl (List.mem_append.2 (Or.inl h1))
      · exact Or.inl (List.mem_append.2 (Or.inr (List.mem_singleton.2 h1)))
    · rw [List.mem_singleton.1 hx]; exact Or.inr rfl
  · rcases List.mem_append.1 hx with hx | hx
    · exact m.cls x hx
    · rw [List.mem_singleton.1 hx]; exact m.dcls
  · rw [← arcs_same m.mid.dlt]; exact m.dcls
  · rcases m.has with h1 | h1
    · exact Or.inl (List.mem_append.2 (Or.inl h1))
    · exact Or.inl (List.mem_append.2 (Or.inr (List.mem_singleton.2 h1.symm)))
theorem Mid2.ends (h : Per f n) {s : Nat → Bool} {first : Nat} : ∀ (m : Nat) {c : List Nat} {d : Nat}, n + 1 - c.length ≤ m → Mid2 f n s first c d → ∃ c d, Mid2 f n s first c d ∧ seen s c d = true
  | 0, c, d, hm, m2 => by have := m2.mid.len; omega
  | m + 1, c, d, hm, m2 => by
    by_cases hd : seen s c d = true
    · exact ⟨c, d, m2, hd⟩
    · exact Mid2.ends h m (by have := m2.mid.len; rw [List.length_append, List.length_singleton]; omega) (m2.step h (by simpa using hd))
theorem cyc_cls (h : Per f n) {s : Nat → Bool} {first : Nat} (hf : first < n) (hs : ∀ x, x < n → s x = true → s (f x) = true) {x : Nat} (hx : x < n) :
    seen s (cyc f (n + 1) s first) x = true ↔ (mergeAll (arcs f n) x = mergeAll (arcs f n) first ∨ s x = true) := by
  obtain ⟨c, d, m, hd⟩ := Mid2.ends h (n + 1) (s := s) (first := first) (c := []) (d := first) (by simp) ⟨Mid.start f s hf, fun _ h => (by cases h), fun _ h => (by cases h), rfl, Or.inr rfl⟩
  rw [m.mid.stop hd]
  have hT : ∀ x, x < n → seen s c x = true → seen s c (f x) = true := fun x hx h1 => by
    have hh : x ∈ c ∨ s x = true := by unfold seen at h1; simpa using h1
    rcases hh with h2 | h2
    · rcases m.next x h2 with h3 | h3
      · unfold seen; simp [h3]
      · rw [h3]; exact hd
    · have := hs x hx h2
      unfold seen; simp [this]
  constructor
  · intro h1
    have hh : x ∈ c ∨ s x = true := by unfold seen at h1; simpa using h1
    exact hh.imp (m.cls x) id
  · rintro (h1 | h1)
    · rw [kept_cls h hT h1]
      rcases m.has with h2 | h2
      · unfold seen; simp [h2]
      · rw [← h2]; exact hd
    · unfold seen; simp [h1]
theorem cyc_nil {s : Nat → Bool} {d : Nat} : cyc f (n + 1) s d = [] ↔ s d = true := by
  unfold cyc
  cases s d <;> simp
/-- The cycles are as many as the classes. -/
theorem cycTo_inv (h : Per f n) : ∀ i, i ≤ n → (∀ x, x < n → ((cycTo f n i).1 x = true ↔ ∃ k, k < i ∧ mergeAll (arcs f n) x = mergeAll (arcs f n) k)) ∧ (cycTo f n i).2.length = (found (mergeAll (arcs f n)) (List.range i)).length
  | 0, _ => ⟨fun x _ => by rw [cycTo_zero]; simp, rfl⟩
  | i + 1, hi => by
    obtain ⟨h1, h2⟩ := cycTo_inv h i (by omega)
    have hs : ∀ x, x < n → (cycTo f n i).1 x = true → (cycTo f n i).1 (f x) = true := fun x hx hh => by
      obtain ⟨k, hk, e⟩ := (h1 x hx).1 hh
      exact (h1 _ (h.lt x hx)).2 ⟨k, hk, by rw [← arcs_same hx]; exact e⟩
    have hc := fun x (hx : x < n) => cyc_cls h (show i < n by omega) hs hx
    rw [cycTo_succ]
    unfold cycStep
    have hii := h1 i (by omega)
    have hfm : mergeAll (arcs f n) i ∈ found (mergeAll (arcs f n)) (List.range i) ↔ (cycTo f n i).1 i = true := by
      rw [found_mem, hii]
      constructor
      · rintro ⟨m, hm, e⟩; exact ⟨m, List.mem_range.1 hm, e.symm⟩
      · rintro ⟨m, hm, e⟩; exact ⟨m, List.mem_range.2 hm, e.symm⟩
    rw [List.range_succ, found_snoc]
    unfold foundStep
    by_cases he : cyc f (n + 1) (cycTo f n i).1 i = []
    · rw [if_pos he]
      have hsi := cyc_nil.1 he
      refine ⟨fun x hx => ?_, by rw [if_pos (hfm.2 hsi)]; exact h2⟩
      rw [h1 x hx]
      constructor
      · rintro ⟨k, hk, e⟩; exact ⟨k, by omega, e⟩
      · rintro ⟨k, hk, e⟩
        rcases Nat.lt_or_ge k i with h3 | h3
        · exact ⟨k, h3, e⟩
        · obtain rfl : k = i := by omega
          obtain ⟨m, hm, e'⟩ := hii.1 hsi
          exact ⟨m, hm, e.trans e'⟩
    · rw [if_neg he]
      have hsi : ¬ (cycTo f n i).1 i = true := fun hh => he (cyc_nil.2 hh)
      refine ⟨fun x hx => ?_, by rw [if_neg (fun hh => hsi (hfm.1 hh)), List.length_append, List.length_append, h2]; rfl⟩
      show seen _ _ x = true ↔ _
      rw [hc x hx, h1 x hx]
      constructor
      · rintro (e | ⟨k, hk, e⟩)
        · exact ⟨i, by omega, e⟩
        · exact ⟨k, by omega, e⟩
      · rintro ⟨k, hk, e⟩
        rcases Nat.lt_or_ge k i with h3 | h3
        · exact Or.inr ⟨k, h3, e⟩
        · obtain rfl : k = i := by omega
          exact Or.inl e
theorem cyc_count (h : Per f n) : (cycTo f n n).2.length = cnum f n := by
  rw [(cycTo_inv h n (Nat.le_refl _)).2, cnum, num_found (Ok.all (arcs_in h))]
end
theorem cycs_len {l : List Int} (h : IsP l) : (cycs l).length = cnum (at_ l) l.length := cyc_count (per_at h)
theorem per_row {f : Nat → Nat} {n : Nat} (h : Per f n) : IsP (row f n) := isP_row h.lt h.inj
theorem genus_gen {l : List Int} (h : IsM l) : genus l = gen (at_ l) l.length := by
  have hp := per_at h.2.2.2
  have e1 : (cycs l).length = vN (at_ l) l.length := cycs_len h.2.2.2
  have e2 : (cycs (dual l)).length = fN (at_ l) l.length := by
    rw [cycs_len (dual_isM h).2.2.2, dual_len]
    unfold fN cnum
    rw [arcs_congr (f := fun k => at_ l (mate k)) (g := at_ (dual l)) fun d hd => at_of_row hd]
  have e3 : parts l = cN (at_ l) l.length := by
    unfold parts ring cN
    refine num_mem (pairsTo_lt h (Nat.le_refl _)) fun p => ?_
    rw [tied_mem]
    unfold pairsTo
    rw [List.mem_flatMap]
    constructor
    · rintro ⟨d, hd, hp⟩
      have hd := List.mem_range.1 hd
      simp only [pair1, List.mem_cons, List.not_mem_nil, or_false] at hp
      rcases hp with rfl | rfl
      · exact ⟨hd, Or.inl rfl⟩
      · exact ⟨hd, Or.inr rfl⟩
    · rintro ⟨h1, h2⟩
      refine ⟨p.1, List.mem_range.2 h1, ?_⟩
      simp only [pair1, List.mem_cons, List.not_mem_nil, or_false]
      rcases h2 with h2 | h2
      · exact Or.inl (by rw [← h2])
      · exact Or.inr (by rw [← h2])
  unfold genus gen
  rw [e1, e2, e3]
theorem genus_nonneg {l : List Int} (h : IsM l) : 0 ≤ genus l := by rw [genus_gen h]; exact gen_nonneg (per_at h.2.2.2) h.2.2.1
theorem dual_dual {l : List Int} (h : IsM l) : dual (dual l) = l := by
  conv => rhs; rw [← at_row h.2.2.2]
  unfold dual
  rw [row_len]
  unfold row
  refine List.map_congr_left fun d hd => ?_
  have hd := List.mem_range.1 hd
  show ((at_ (row (dualF l) l.length) (mate d) : Nat) : Int) = _
  rw [at_of_row (mate_lt h.2.2.1 hd)]
  unfold dualF; rw [mate_mate]
theorem genus_dual {l : List Int} (h : IsM l) : genus (dual l) = genus l := by
  rw [genus_gen (dual_isM h), genus_gen h, dual_len, ← gen_dual (per_at h.2.2.2) h.2.2.1]
  unfold gen vN fN cN tied cnum
  have e : ∀ d, d < l.length → at_ (dual l) d = at_ l (mate d) := fun d hd => at_of_row hd
  rw [arcs_congr e, arcs_congr (f := fun k => at_ l (mate (mate k))) (g := fun k => at_ (dual l) (mate k)) fun d hd => e _ (mate_lt h.2.2.1 hd)]
theorem gen_congr {f g : Nat → Nat} {n : Nat} (hn : n % 2 = 0) (h : ∀ d, d < n → g d = f d) : gen g n = gen f n := by
  unfold gen vN fN cN tied cnum
  rw [arcs_congr h, arcs_congr (f := fun k => f (mate k)) (g := fun k => g (mate k)) fun d hd => h _ (mate_lt hn hd)]
theorem mirror_at {l : List Int} (h : IsP l) {d : Nat} (hd : d < l.length) : at_ (mirror l) (at_ l d) = d := by
  unfold mirror; rw [at_of_row (at_lt h hd), invTo_at h (Nat.le_refl _) hd]
theorem mirror_isM {l : List Int} (h : IsM l) : IsM (mirror l) := by
  obtain ⟨h1, h2, h3, h4⟩ := h
  have hp := per_at h4
  have key : ∀ d, d < l.length → ∃ e, e < l.length ∧ at_ l e = d ∧ invTo l l.length d = e := fun d hd => by
    obtain ⟨e, he, rfl⟩ := hp.pre hd
    exact ⟨e, he, rfl, invTo_at h4 (Nat.le_refl _) he⟩
  refine ⟨by rw [mirror_len]; exact h1, by rw [mirror_len]; exact h2, by rw [mirror_len]; exact h3, isP_row (fun d hd => ?_) (fun d e hd he hh => ?_)⟩
  · obtain ⟨e, he, _, e2⟩ := key d hd; rw [e2]; exact he
  · obtain ⟨d', _, d1, d2⟩ := key d hd
    obtain ⟨e', _, e1, e2⟩ := key e he
    rw [d2, e2] at hh; rw [← d1, ← e1, hh]
theorem genus_mirror {l : List Int} (h : IsM l) : genus (mirror l) = genus l := by
  have hm := mirror_isM h
  have hp := per_at hm.2.2.2
  rw [mirror_len] at hp
  rw [genus_gen hm, genus_gen h, mirror_len]
  exact gen_mirror (per_at h.2.2.2) hp h.2.2.1 fun d hd => mirror_at h.2.2.2 hd
theorem mirror_mirror {l : List Int} (h : IsM l) : mirror (mirror l) = l := by
  have hm := mirror_isM h
  conv => rhs; rw [← at_row h.2.2.2]
  show row (invTo (mirror l) (mirror l).length) (mirror l).length = _
  rw [mirror_len]
  unfold row
  refine List.map_congr_left fun d hd => ?_
  have hd := List.mem_range.1 hd
  have h1 := invTo_at hm.2.2.2 (i := l.length) (d := at_ l d) (by rw [mirror_len]; exact Nat.le_refl _) (at_lt h.2.2.2 hd)
  rw [mirror_at h.2.2.2 hd] at h1
  rw [h1]

/-- An edge is left out. -/
theorem swp_out {f : Nat → Nat} {a p : Nat} (h : f p = a) : (∀ k, swp f a p k = if k = a then a else if f k = a ∧ k = p then f a else f k) := fun k => by
  by_cases h1 : k = a
  · rw [if_pos h1, h1, swp_l, h]
  · rw [if_neg h1]
    by_cases h2 : k = p
    · rw [if_pos ⟨by rw [h2, h], h2⟩, h2, swp_r]
    · rw [if_neg (fun hh => h2 hh.2), swp_o h1 h2]
theorem half_iff {e x : Nat} : x / 2 = e ↔ (x = 2 * e ∨ x = 2 * e + 1) := by omega
theorem skip_out {l : List Int} {n e pa pb y : Nat} (h : Per (at_ l) n) (ha : 2 * e + 1 < n) (hpa : pa < n) (h1 : at_ l pa = 2 * e) (h2 : swp (at_ l) (2 * e) pa pb = 2 * e + 1) (hpb : pb < n) (hy : y < n) (y1 : y ≠ 2 * e) (y2 : y ≠ 2 * e + 1) :
    swp (swp (at_ l) (2 * e) pa) (2 * e + 1) pb y = skip l e (at_ l y) := by
  have hg := h.swp (show 2 * e < n by omega) hpa
  rw [swp_out h2 y, if_neg y2]
  have o1 := fun k => swp_out h1 k
  have ypb : swp (at_ l) (2 * e) pa y = 2 * e + 1 → y = pb := fun hh => hg.inj _ _ hy hpb (by rw [hh, h2])
  have g1 : swp (at_ l) (2 * e) pa y = (if at_ l y = 2 * e then at_ l (2 * e) else at_ l y) := by
    rw [o1 y, if_neg y1]
    by_cases hh : at_ l y = 2 * e
    · rw [if_pos hh, if_pos ⟨hh, h.inj _ _ hy hpa (by rw [hh, h1])⟩]
    · rw [if_neg hh, if_neg (fun hc => hh hc.1)]
  have g2 : swp (at_ l) (2 * e) pa (2 * e + 1) = (if at_ l (2 * e + 1) = 2 * e then at_ l (2 * e) else at_ l (2 * e + 1)) := by
    rw [o1, if_neg (by omega)]
    by_cases hh : at_ l (2 * e + 1) = 2 * e
    · rw [if_pos hh, if_pos ⟨hh, h.inj _ _ ha hpa (by rw [hh, h1])⟩]
    · rw [if_neg hh, if_neg (fun hc => hh hc.1)]
  unfold skip
  by_cases c1 : at_ l y = 2 * e
  · rw [if_pos c1] at g1
    have na : at_ l (2 * e) ≠ 2 * e := fun hh => y1 (h.inj _ _ hy (by omega) (by rw [c1, hh]))
    rw [if_pos (half_iff.2 (Or.inl c1)), c1]
    by_cases c2 : at_ l (2 * e) = 2 * e + 1
    · rw [if_pos (half_iff.2 (Or.inr c2))]
      have e1 : swp (at_ l) (2 * e) pa y = 2 * e + 1 := by rw [g1, c2]
      rw [if_pos ⟨e1, ypb e1⟩, g2, c2]
      have nb : at_ l (2 * e + 1) ≠ 2 * e := fun hh => y2 (h.inj _ _ hy ha (by rw [c1, hh]))
      rw [if_neg nb]
    · rw [if_neg (fun hc => c2 (by rw [← g1]; exact hc.1)), if_neg (fun hh => by rcases half_iff.1 hh with hh | hh <;> contradiction), g1]
  · rw [if_neg c1] at g1
    by_cases c2 : at_ l y = 2 * e + 1
    · have e1 : swp (at_ l) (2 * e) pa y = 2 * e + 1 := by rw [g1, c2]
      have nb : at_ l (2 * e + 1) ≠ 2 * e + 1 := fun hh => y2 (h.inj _ _ hy ha (by rw [c2, hh]))
      rw [if_pos (half_iff.2 (Or.inr c2)), c2, if_pos ⟨e1, ypb e1⟩, g2]
      by_cases c3 : at_ l (2 * e + 1) = 2 * e
      · rw [if_pos c3, if_pos (half_iff.2 (Or.inl c3)), c3]
      · rw [if_neg c3, if_neg (fun hh => by rcases half_iff.1 hh with hh | hh <;> contradiction)]
    · rw [if_neg (fun hc => c2 (by rw [← g1]; exact hc.1)), if_neg (fun hh => by rcases half_iff.1 hh with hh | hh <;> contradiction), g1]
theorem range_but {n e : Nat} (h : 2 * e ≤ n) : (List.range (n + 2)).filter (fun d => d / 2 != e) = (List.range n).map (up2 (2 * e)) := by
  obtain ⟨r, rfl⟩ : ∃ r, n = 2 * e + r := ⟨n - 2 * e, by omega⟩
  rw [show 2 * e + r + 2 = 2 * e + (2 + r) from by omega, List.range_add, List.range_add, List.range_add, List.map_append, List.filter_append, List.filter_append, List.map_append]
  have e1 : (List.range (2 * e)).filter (fun d => d / 2 != e) = (List.range (2 * e)).map (up2 (2 * e)) := by
    rw [List.filter_eq_self.2 (fun d hd => by have := List.mem_range.1 hd; simp; omega)]
    conv => lhs; rw [← List.map_id (List.range (2 * e))]
    exact List.map_congr_left fun d hd => by have := List.mem_range.1 hd; simp [up2, this]
  have e2 : ((List.range 2).map (2 * e + ·)).filter (fun d => d / 2 != e) = [] := by
    rw [List.filter_eq_nil_iff]
    intro d hd
    obtain ⟨j, hj, rfl⟩ := List.mem_map.1 hd
    have := List.mem_range.1 hj
    simp; omega
  have e3 : (((List.range r).map (2 + ·)).map (2 * e + ·)).filter (fun d => d / 2 != e) = ((List.range r).map (2 * e + ·)).map (up2 (2 * e)) := by
    rw [List.filter_eq_self.2 (fun d hd => by
      obtain ⟨j, hj, rfl⟩ := List.mem_map.1 hd
      obtain ⟨i, _, rfl⟩ := List.mem_map.1 hj
      simp; omega)]
    rw [List.map_map, List.map_map]
    refine List.map_congr_left fun d _ => ?_
    show 2 * e + (2 + d) = up2 (2 * e) (2 * e + d)
    unfold up2; rw [if_neg (by omega)]; omega
  rw [e1, e2, e3, List.nil_append]
/-- The map without an edge, as a function. -/
def dropF (l : List Int) (e : Nat) : Nat → Nat := fun x => less e (skip l e (at_ l (up2 (2 * e) x)))
theorem drop_row {l : List Int} {e : Int} (h : DropOk l e) : drop l e = row (dropF l e.toNat) (l.length - 2) := by
  have h1 := h.1.2.2
  have h2 := h.1.1.1
  unfold drop
  rw [if_pos h]
  unfold dropN dropTo row
  obtain ⟨n, hn⟩ : ∃ n, l.length = n + 2 := ⟨l.length - 2, by omega⟩
  rw [hn, range_but (by omega), List.map_map, List.map_map, show n + 2 - 2 = n from by omega]
  rfl
theorem less_dn {e y : Nat} (h1 : y ≠ 2 * e) (h2 : y ≠ 2 * e + 1) : less e y = dn2 (2 * e) y := by unfold less dn2; split <;> split <;> omega
theorem drop_emb {l : List Int} {e : Int} (h : DropOk l e) {pa pb : Nat} (hpa : pa < l.length) (h1 : at_ l pa = 2 * e.toNat) (hpb : pb < l.length) (h2 : swp (at_ l) (2 * e.toNat) pa pb = 2 * e.toNat + 1) :
    Emb (dropF l e.toNat) (swp (swp (at_ l) (2 * e.toNat) pa) (2 * e.toNat + 1) pb) (l.length - 2) (2 * e.toNat) := by
  obtain ⟨⟨hM, h3, h4⟩, h5⟩ := h
  have hl := hM.1
  have hev := hM.2.2.1
  have hp := per_at hM.2.2.2
  generalize he : e.toNat = k at *
  obtain ⟨n, hn⟩ : ∃ n, l.length = n + 2 := ⟨l.length - 2, by omega⟩
  have hk : 2 * k + 1 < l.length := by omega
  have hg := (hp.swp (show 2 * k < l.length by omega) hpa).swp hk hpb
  have g1 : swp (swp (at_ l) (2 * k) pa) (2 * k + 1) pb (2 * k) = 2 * k := by
    rw [swp_out h2, if_neg (by omega), swp_l, h1, if_neg]
    rintro ⟨h6, _⟩; omega
  have g2 : swp (swp (at_ l) (2 * k) pa) (2 * k + 1) pb (2 * k + 1) = 2 * k + 1 := by rw [swp_l, h2]
  have up : ∀ x, x < l.length - 2 → swp (swp (at_ l) (2 * k) pa) (2 * k + 1) pb (up2 (2 * k) x) = up2 (2 * k) (dropF l k x) ∧ dropF l k x < l.length - 2 := fun x hx => by
    have hu := up_ne (a := 2 * k) (x := x)
    have hlt : up2 (2 * k) x < l.length := by have := up_lt (a := 2 * k) hx (by omega); omega
    have hs := skip_out hp hk hpa h1 h2 hpb hlt hu.1 hu.2
    have n1 : skip l k (at_ l (up2 (2 * k) x)) ≠ 2 * k := fun hh => hu.1 (hg.inj _ _ hlt (by omega) (by rw [hs, hh, g1]))
    have n2 : skip l k (at_ l (up2 (2 * k) x)) ≠ 2 * k + 1 := fun hh => hu.2 (hg.inj _ _ hlt hk (by rw [hs, hh, g2]))
    have hlt2 := hg.lt _ hlt
    rw [hs] at hlt2
    refine ⟨?_, ?_⟩
    · rw [hs]; unfold dropF; rw [less_dn n1 n2, up_dn n1 n2]
    · unfold dropF; rw [less_dn n1 n2]; unfold dn2; split <;> omega
  refine ⟨by omega, by omega, by omega, ⟨fun x hx => (up x hx).2, fun x y hx hy hh => ?_⟩, g1, g2, fun x hx => (up x hx).1⟩
  have hxl : up2 (2 * k) x < l.length := by have := up_lt (a := 2 * k) hx (by omega); omega
  have hyl : up2 (2 * k) y < l.length := by have := up_lt (a := 2 * k) hy (by omega); omega
  exact up_inj (hg.inj _ _ hxl hyl (by rw [(up x hx).1, (up y hy).1, hh]))
theorem drop_pre {l : List Int} {e : Int} (h : DropOk l e) : ∃ pa pb, pa < l.length ∧ at_ l pa = 2 * e.toNat ∧ pb < l.length ∧ swp (at_ l) (2 * e.toNat) pa pb = 2 * e.toNat + 1 := by
  obtain ⟨⟨hM, h3, h4⟩, h5⟩ := h
  have hp := per_at hM.2.2.2
  have h6 : 2 * e.toNat + 1 < l.length := by omega
  obtain ⟨pa, hpa, h1⟩ := hp.pre (show 2 * e.toNat < l.length by omega)
  obtain ⟨pb, hpb, h2⟩ := (hp.swp (show 2 * e.toNat < l.length by omega) hpa).pre h6
  exact ⟨pa, pb, hpa, h1, hpb, h2⟩
theorem drop_isM {l : List Int} {e : Int} (h : DropOk l e) : IsM (drop l e) := by
  obtain ⟨pa, pb, hpa, h1, hpb, h2⟩ := drop_pre h
  have hE := drop_emb h hpa h1 hpb h2
  have hM := h.1.1
  have := h.2; have := hM.1; have := hM.2.1; have := hM.2.2.1
  rw [drop_row h]
  exact ⟨by rw [row_len]; omega, by rw [row_len]; omega, by rw [row_len]; omega, per_row hE.perf⟩
theorem genus_drop {l : List Int} {e : Int} (h : DropOk l e) : genus (drop l e) ≤ genus l := by
  obtain ⟨pa, pb, hpa, h1, hpb, h2⟩ := drop_pre h
  have hE := drop_emb h hpa h1 hpb h2
  have hM := h.1.1
  have hp := per_at hM.2.2.2
  have hl : l.length - 2 + 2 = l.length := by have := hM.1; omega
  have h3 := h.1.2.2
  have h4 : 2 * e.toNat + 1 < l.length := by have := h.1.2.1; omega
  rw [genus_gen (drop_isM h), genus_gen hM]
  have e1 : gen (at_ (drop l e)) (drop l e).length = gen (dropF l e.toNat) (l.length - 2) := by
    rw [drop_row h, row_len]
    exact gen_congr hE.nev fun d hd => at_of_row hd
  rw [e1, ← hE.gen, hl]
  exact Int.le_trans (gen_takeOut (hp.swp (show 2 * e.toNat < l.length by omega) hpa) hM.2.2.1 h4 hpb h2) (gen_takeOut hp hM.2.2.1 (by omega) hpa h1)

section
variable {l : List Int} {a b : Nat}
theorem addF_eq (k : Nat) : addF l a b k =
    if k = (if a = b then l.length else b) then l.length + 1 else if k = l.length + 1 then behind (at_ l) l.length a (if a = b then l.length else b) else if k = a then l.length else if k = l.length then at_ l a else at_ l k := by
  unfold addF
  conv => lhs; unfold behind upd
  split
  · rfl
  · split
    · rfl
    · unfold behind upd; rfl
theorem addF_old (ha : a < l.length) (hb : b < l.length) {k : Nat} (hk : k < l.length) : addF l a b k = if k = a then l.length else if k = b then l.length + 1 else at_ l k := by
  rw [addF_eq]
  by_cases hab : a = b
  · rw [if_pos hab, if_neg (by omega), if_neg (by omega)]
    by_cases h1 : k = a
    · rw [if_pos h1, if_pos h1]
    · rw [if_neg h1, if_neg h1, if_neg (by omega), if_neg (by omega)]
  · rw [if_neg hab]
    by_cases h1 : k = b
    · rw [if_pos h1, if_neg (by omega), if_pos h1]
    · rw [if_neg h1, if_neg (by omega), if_neg (by omega : ¬ k = l.length)]
      rw [if_neg h1]
theorem addF_n (ha : a < l.length) (hb : b < l.length) : addF l a b l.length = if a = b then l.length + 1 else at_ l a := by
  rw [addF_eq]
  by_cases hab : a = b
  · rw [if_pos hab, if_pos rfl, if_pos hab]
  · rw [if_neg hab, if_neg (by omega), if_neg (by omega), if_neg (by omega), if_pos rfl, if_neg hab]
theorem addF_n1 (ha : a < l.length) (hb : b < l.length) : addF l a b (l.length + 1) = if a = b then at_ l a else at_ l b := by
  rw [addF_eq]
  by_cases hab : a = b
  · rw [if_pos hab, if_neg (by omega), if_pos rfl, if_pos hab]
    unfold behind upd
    rw [if_neg (by omega), if_pos rfl]
  · rw [if_neg hab, if_neg (by omega), if_pos rfl, if_neg hab]
    unfold behind upd
    rw [if_neg (fun h => hab h.symm), if_neg (by omega)]
theorem addF_per (h : IsP l) (ha : a < l.length) (hb : b < l.length) : Per (addF l a b) (l.length + 2) := by
  have hp := per_at h
  have hla := hp.lt a ha
  have hlb := hp.lt b hb
  have hol : ∀ k, k < l.length → at_ l k < l.length := hp.lt
  -- each image by its kind
  have val : ∀ k, k < l.length + 2 → addF l a b k < l.length + 2 := fun k hk => by
    rcases Nat.lt_or_ge k l.length with h1 | h1
    · rw [addF_old ha hb h1]; have := hol k h1; split
      · omega
      · split <;> omega
    · have : k = l.length ∨ k = l.length + 1 := by omega
      rcases this with rfl | rfl
      · rw [addF_n ha hb]; split <;> omega
      · rw [addF_n1 ha hb]; split <;> omega
  refine ⟨val, fun d e hd he hh => ?_⟩
  have inj := fun x y (hx : x < l.length) (hy : y < l.length) => hp.inj x y hx hy
  have cls : ∀ k, k < l.length + 2 → k < l.length ∧ k ≠ a ∧ (k ≠ b) ∧ addF l a b k = at_ l k ∨ k = a ∧ addF l a b k = l.length ∨ k = b ∧ a ≠ b ∧ addF l a b k = l.length + 1 ∨ k = l.length ∧ (a = b ∧ addF l a b k = l.length + 1 ∨ a ≠ b ∧ addF l a b k = at_ l a) ∨ k = l.length + 1 ∧ addF l a b k = at_ l b := fun k hk => by
    rcases Nat.lt_or_ge k l.length with h1 | h1
    · have := addF_old ha hb h1
      by_cases e1 : k = a
      · rw [if_pos e1] at this; exact Or.inr (Or.inl ⟨e1, this⟩)
      · rw [if_neg e1] at this
        by_cases e2 : k = b
        · rw [if_pos e2] at this; exact Or.inr (Or.inr (Or.inl ⟨e2, fun h => e1 (e2.trans h.symm), this⟩))
        · rw [if_neg e2] at this; exact Or.inl ⟨h1, e1, e2, this⟩
    · have : k = l.length ∨ k = l.length + 1 := by omega
      rcases this with rfl | rfl
      · have := addF_n ha hb (l := l)
        by_cases hab : a = b
        · rw [if_pos hab] at this; exact Or.inr (Or.inr (Or.inr (Or.inl ⟨rfl, Or.inl ⟨hab, this⟩⟩)))
        · rw [if_neg hab] at this; exact Or.inr (Or.inr (Or.inr (Or.inl ⟨rfl, Or.inr ⟨hab, this⟩⟩)))
      · have := addF_n1 ha hb (l := l)
        refine Or.inr (Or.inr (Or.inr (Or.inr ⟨rfl, ?_⟩)))
        rw [this]; split
        · rename_i hab; rw [hab]
        · rfl
  have hcd := cls d hd
  have hce := cls e he
  rw [hh] at hcd
  rcases hcd with ⟨d1, d2, d3, d4⟩ | ⟨d1, d4⟩ | ⟨d1, d2, d4⟩ | ⟨d1, ⟨d2, d4⟩ | ⟨d2, d4⟩⟩ | ⟨d1, d4⟩ <;> rcases hce with ⟨e1, e2, e3, e4⟩ | ⟨e1, e4⟩ | ⟨e1, e2, e4⟩ | ⟨e1, ⟨e2, e4⟩ | ⟨e2, e4⟩⟩ | ⟨e1, e4⟩ <;> rw [d4] at e4 <;>
    first
    | (have := hol d d1; omega)
    | (have := hol e e1; omega)
    | omega
    | exact inj _ _ d1 e1 e4
    | exact absurd (inj _ _ d1 ha e4) d2
    | exact absurd (inj _ _ d1 hb e4) d3
    | exact absurd (inj _ _ ha e1 e4).symm e2
    | exact absurd (inj _ _ hb e1 e4).symm e3
    | exact absurd (inj _ _ ha hb e4) d2
    | exact absurd (inj _ _ hb ha e4).symm e2
end
theorem add_isM {l : List Int} {a b : Int} (h : AddOk l a b) : IsM (add l a b) := by
  obtain ⟨⟨h1, h2, h3, h4⟩, ⟨a1, a2⟩, ⟨b1, b2⟩, hr⟩ := h
  unfold add
  rw [if_pos ⟨⟨h1, h2, h3, h4⟩, ⟨a1, a2⟩, ⟨b1, b2⟩, hr⟩]
  exact ⟨by rw [row_len]; omega, by rw [row_len]; exact hr, by rw [row_len]; omega, per_row (addF_per h4 (by omega) (by omega))⟩
theorem add_dropOk {l : List Int} {a b : Int} (h : AddOk l a b) : DropOk (add l a b) ((l.length / 2 : Nat) : Int) := by
  have hM := add_isM h
  have hlen : (add l a b).length = l.length + 2 := by unfold add; rw [if_pos h, row_len]
  have := h.1.1
  refine ⟨⟨hM, by omega, ?_⟩, by omega⟩
  rw [hlen]; omega
theorem drop_add {l : List Int} {a b : Int} (h : AddOk l a b) : drop (add l a b) ((l.length / 2 : Nat) : Int) = l := by
  have hd := add_dropOk h
  rw [drop_row hd]
  have hlen : (add l a b).length = l.length + 2 := by unfold add; rw [if_pos h, row_len]
  rw [hlen]
  obtain ⟨⟨h1, h2, h3, h4⟩, ⟨a1, a2⟩, ⟨b1, b2⟩, hr⟩ := h
  have hp := per_at h4
  have e2 : 2 * (l.length / 2) = l.length := by omega
  have hat : ∀ k, k < l.length + 2 → at_ (add l a b) k = addF l a.toNat b.toNat k := fun k hk => by
    unfold add; rw [if_pos ⟨⟨h1, h2, h3, h4⟩, ⟨a1, a2⟩, ⟨b1, b2⟩, hr⟩]; exact at_of_row hk
  have ha : a.toNat < l.length := by omega
  have hb : b.toNat < l.length := by omega
  conv => rhs; rw [← at_row h4]
  rw [show l.length + 2 - 2 = l.length from by omega]
  unfold row
  refine List.map_congr_left fun x hx => ?_
  have hx := List.mem_range.1 hx
  congr 1
  unfold dropF
  rw [Int.toNat_natCast, e2]
  have hu : up2 l.length x = x := by unfold up2; rw [if_pos hx]
  rw [hu, hat x (by omega), addF_old ha hb hx]
  have hsame : ∀ y, y < l.length → less (l.length / 2) y = y := fun y hy => by unfold less; rw [if_neg (by omega)]
  have q0 : l.length / 2 = l.length / 2 := rfl
  have q1 : (l.length + 1) / 2 = l.length / 2 := by omega
  unfold skip
  by_cases c1 : x = a.toNat
  · rw [if_pos c1, if_pos q0, hat _ (by omega), addF_n ha hb]
    by_cases hab : a.toNat = b.toNat
    · rw [if_pos hab, if_pos q1, hat _ (by omega), addF_n1 ha hb, if_pos hab, c1, hsame _ (hp.lt _ ha)]
    · have := hp.lt _ ha
      rw [if_neg hab, if_neg (by omega), c1, hsame _ (hp.lt _ ha)]
  · rw [if_neg c1]
    by_cases c2 : x = b.toNat
    · have hab : ¬ a.toNat = b.toNat := fun h => c1 (c2.trans h.symm)
      have := hp.lt _ hb
      rw [if_pos c2, if_pos q1, hat _ (by omega), addF_n1 ha hb, if_neg hab, if_neg (by omega), c2, hsame _ (hp.lt _ hb)]
    · have := hp.lt _ hx
      rw [if_neg c2, if_neg (by omega), hsame _ (hp.lt _ hx)]
theorem genus_add {l : List Int} {a b : Int} (h : AddOk l a b) : genus l ≤ genus (add l a b) := by
  have := genus_drop (add_dropOk h)
  rwa [drop_add h] at this
end Mp
end Go.Proofs.Ytodgongemoabiaa
