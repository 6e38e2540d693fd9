/-
  Branched coverings, pure: how many cycles products have and in how many parts, that braids keep both, passports of maps.
-/
import Derived.Test.YtpebgompfgkljaaBase
import Derived.Test.YtpebgompfgkljaaSlice
import Derived.Test.YtpebgompfgkljaaInts
import Derived.Test.YtpebgompfgkljaaWord
import Derived.Test.YtpebgompfgkljaaGrid
import Derived.Test.YtpebgompfgkljaaClass
import Derived.Test.YtpebgompfgkljaaTri
import Derived.Test.YtpebgompfgkljaaMapTopo
import Derived.Test.YtpebgompfgkljaaLab
import Derived.Test.YtpebgompfgkljaaMap
import Derived.Test.YtpebgompfgkljaaCov
namespace Go.Proofs.Ytpebgompfgkljaa
open Go.RowKit

namespace Br
open Cls Mp
theorem cnum_congr {f g : Nat → Nat} {n : Nat} (h : ∀ d, d < n → g d = f d) : cnum g n = cnum f n := by unfold cnum; rw [arcs_congr h]
/-- One permutation more: how many cycles, and in how many parts. -/
theorem rh {n : Nat} {f : Nat → Nat} (hf : Per f n) : ∀ {g : Nat → Nat} {E : List (Nat × Nat)}, Per g n → In n E → (∀ k, k < n → mergeAll E k = mergeAll E (g k)) →
    cnum (fun k => f (g k)) n + 2 * num n (mergeAll E) + cnum f n ≤ cnum g n + 2 * num n (mergeAll (E ++ arcs f n)) + n ∧ (cnum (fun k => f (g k)) n + cnum f n + cnum g n + n) % 2 = 0 := by
  generalize hm : n - cnum f n = m
  induction m using Nat.strongRecOn generalizing f with
  | ind m ih =>
    intro g E hg hE hgE
    by_cases hid : ∀ d, d < n → f d = d
    · have e1 : cnum f n = n := (cnum_congr (f := fun k => k) (g := f) hid).trans (num_id n)
      have e2 : cnum (fun k => f (g k)) n = cnum g n := cnum_congr fun d hd => hid _ (hg.lt d hd)
      have e3 : num n (mergeAll (E ++ arcs f n)) = num n (mergeAll E) := by
        refine num_iff (In.append hE (arcs_in hf)) hE (fun p hp => ?_) (fun p hp => eq_of_mem (List.mem_append.2 (Or.inl hp)))
        rcases List.mem_append.1 hp with hp | hp
        · exact eq_of_mem hp
        · obtain ⟨h1, h2⟩ := arcs_mem.1 hp
          rw [h2, hid _ h1]
      omega
    · obtain ⟨a, ha, hne⟩ : ∃ a, a < n ∧ f a ≠ a := by
        apply Classical.byContradiction
        intro hh
        exact hid fun d hd => Classical.byContradiction fun hne => hh ⟨d, hd, hne⟩
      obtain ⟨b, hb, hfb⟩ := hf.pre ha
      have hba : b ≠ a := fun e => hne (by rw [← e]; rw [hfb]; exact e.symm)
      have hf' := hf.swp ha hb
      have hga : swp f a b a = a := by rw [swp_l, hfb]
      have hgb : swp f a b b = f a := swp_r f a b
      have hgo : ∀ k, k ≠ a → k ≠ b → swp f a b k = f k := fun k h1 h2 => swp_o h1 h2
      have hcf : cnum f n + 1 = cnum (swp f a b) n := by
        have := swp_diff hf' ha hb (fix_apart hf' ha hga hba)
        rwa [swp_swp] at this
      obtain ⟨x, hx, hgx⟩ := hg.pre ha
      obtain ⟨y, hy, hgy⟩ := hg.pre hb
      have hxy : x ≠ y := fun e => hba (by rw [← hgx, ← hgy, e])
      have hg' := hg.swp hx hy
      have hcomp : ∀ k, k < n → swp f a b (swp g x y k) = f (g k) := by
        intro k hk
        by_cases e1 : k = x
        · subst e1; rw [swp_l, hgy, hgb, hgx]
        · by_cases e2 : k = y
          · subst e2; rw [swp_r, hgx, hga, hgy, hfb]
          · rw [swp_o e1 e2]
            exact hgo _ (fun e => e1 (hg.inj _ _ hk hx (e.trans hgx.symm))) (fun e => e2 (hg.inj _ _ hk hy (e.trans hgy.symm)))
      have hE' : In n (E ++ [(a, b)]) := In.append hE fun p hp => by rw [List.mem_singleton.1 hp]; exact ⟨ha, hb⟩
      have hab : mergeAll (E ++ [(a, b)]) a = mergeAll (E ++ [(a, b)]) b := eq_of_mem (List.mem_append.2 (Or.inr (List.mem_singleton.2 rfl)))
      have hgE' : ∀ k, k < n → mergeAll (E ++ [(a, b)]) k = mergeAll (E ++ [(a, b)]) (swp g x y k) := by
        intro k hk
        have h0 : mergeAll (E ++ [(a, b)]) k = mergeAll (E ++ [(a, b)]) (g k) := eq_append (hgE k hk)
        by_cases e1 : k = x
        · subst e1; rw [swp_l, h0, hgx, hgy]; exact hab
        · by_cases e2 : k = y
          · subst e2; rw [swp_r, h0, hgx, hgy]; exact hab.symm
          · rw [swp_o e1 e2]; exact h0
      have hle := cnum_le (swp f a b) n
      obtain ⟨i1, i2⟩ := ih (n - cnum (swp f a b) n) (by omega) hf' rfl hg' hE' hgE'
      rw [cnum_congr (f := fun k => f (g k)) (g := fun k => swp f a b (swp g x y k)) hcomp] at i1 i2
      have e3 : num n (mergeAll (E ++ [(a, b)] ++ arcs (swp f a b) n)) = num n (mergeAll (E ++ arcs f n)) := by
        have k1 : ∀ k, k < n → mergeAll (E ++ arcs f n) k = mergeAll (E ++ arcs f n) (f k) := fun k hk => arcs_eq hk _ fun _ h => List.mem_append.2 (Or.inr h)
        have k2 : ∀ k, k < n → mergeAll (E ++ [(a, b)] ++ arcs (swp f a b) n) k = mergeAll (E ++ [(a, b)] ++ arcs (swp f a b) n) (swp f a b k) := fun k hk => arcs_eq hk _ fun _ h => List.mem_append.2 (Or.inr h)
        have k3 : mergeAll (E ++ [(a, b)] ++ arcs (swp f a b) n) a = mergeAll (E ++ [(a, b)] ++ arcs (swp f a b) n) b := eq_append hab
        refine num_iff (In.append hE' (arcs_in hf')) (In.append hE (arcs_in hf)) (fun p hp => ?_) (fun p hp => ?_)
        · rcases List.mem_append.1 hp with hp | hp
          · rcases List.mem_append.1 hp with hp | hp
            · exact eq_of_mem (List.mem_append.2 (Or.inl hp))
            · rw [List.mem_singleton.1 hp]
              have := k1 b hb
              rw [hfb] at this; exact this.symm
          · obtain ⟨h1, h2⟩ := arcs_mem.1 hp
            rw [h2]
            by_cases e1 : p.1 = a
            · rw [e1, hga]
            · by_cases e2 : p.1 = b
              · rw [e2, hgb]
                have := k1 b hb
                rw [hfb] at this; exact this.trans (k1 a ha)
              · rw [hgo _ e1 e2]; exact k1 _ h1
        · rcases List.mem_append.1 hp with hp | hp
          · exact eq_of_mem (List.mem_append.2 (Or.inl (List.mem_append.2 (Or.inl hp))))
          · obtain ⟨h1, h2⟩ := arcs_mem.1 hp
            rw [h2]
            by_cases e1 : p.1 = a
            · rw [e1]
              have := k2 b hb
              rw [hgb] at this; exact k3.trans this
            · by_cases e2 : p.1 = b
              · rw [e2, hfb]; exact k3.symm
              · have := k2 _ h1
                rw [hgo _ e1 e2] at this; exact this
      rw [e3] at i1
      rcases swp_cases hg hx hy hxy with ⟨_, h2⟩ | ⟨h1, h2⟩
      · have h3 : num n (mergeAll E) ≤ num n (mergeAll (E ++ [(a, b)])) + 1 := by
          by_cases e : mergeAll E a = mergeAll E b
          · rw [num_same (p := (a, b)) e]; omega
          · have := num_diff (p := (a, b)) hE ha hb e; omega
        omega
      · have h3 : mergeAll E a = mergeAll E b := by
          have h4 : mergeAll E x = mergeAll E y := ker_le (fun p hp => by
            obtain ⟨h5, h6⟩ := arcs_mem.1 hp
            rw [h6]; exact hgE _ h5) h1
          have h5 := hgE x hx
          have h6 := hgE y hy
          rw [hgx] at h5; rw [hgy] at h6
          rw [← h5, ← h6]; exact h4
        have h4 := num_same (N := n) (es := E) (p := (a, b)) h3
        omega
theorem pairs_snoc {n : Nat} (P : List (List Int)) {p : List Int} (hp : p.length = n) : Cv.pairs (P ++ [p]) = Cv.pairs P ++ arcs (at_ p) n := by
  unfold Cv.pairs metAll
  rw [List.flatMap_append, List.flatMap_singleton, hp]; rfl
theorem pairs_mem {n : Nat} {P : List (List Int)} (h : Alike n P) {p : List Int} (hp : p ∈ P) {s : Nat} (hs : s < n) : (s, at_ p s) ∈ Cv.pairs P := by
  unfold Cv.pairs metAll
  exact List.mem_flatMap.2 ⟨p, hp, List.mem_map.2 ⟨s, List.mem_range.2 (by rw [(h p hp).1]; exact hs), rfl⟩⟩
theorem pairs_of {n : Nat} {P : List (List Int)} (h : Alike n P) {x : Nat × Nat} (hx : x ∈ Cv.pairs P) : ∃ p ∈ P, x.1 < n ∧ x.2 = at_ p x.1 := by
  unfold Cv.pairs metAll at hx
  obtain ⟨p, hp, h2⟩ := List.mem_flatMap.1 hx
  obtain ⟨s, hs, rfl⟩ := List.mem_map.1 h2
  refine ⟨p, hp, ?_, rfl⟩
  have := List.mem_range.1 hs
  rw [(h p hp).1] at this; exact this
theorem pairs_in {n : Nat} {P : List (List Int)} (h : Alike n P) : In n (Cv.pairs P) := fun x hx => by
  obtain ⟨p, hp, h1, h2⟩ := pairs_of h hx
  have := h p hp
  exact ⟨h1, by rw [h2]; have := at_lt this.2 (d := x.1) (by omega); omega⟩
theorem lab_step {n : Nat} {P : List (List Int)} (h : Alike n P) {p : List Int} (hp : p ∈ P) {s : Nat} (hs : s < n) : Cv.lab P s = Cv.lab P (at_ p s) := eq_of_mem (pairs_mem h hp hs)
theorem lab_mul {n : Nat} {P : List (List Int)} (h : Alike n P) : ∀ {Q : List (List Int)}, (∀ q ∈ Q, q ∈ P) → ∀ {s : Nat}, s < n → Cv.lab P s = Cv.lab P (mul Q s)
  | [], _, s, hs => rfl
  | q :: Q, hQ, s, hs => by
    have hq := hQ q (List.mem_cons_self ..)
    have h1 := h q hq
    have := at_lt h1.2 (d := s) (by omega)
    rw [lab_step h hq hs]
    exact lab_mul (Q := Q) h (fun r hr => hQ r (List.mem_cons_of_mem _ hr)) (by omega)
theorem per_mul {n : Nat} {P : List (List Int)} (h : Alike n P) : Per (mul P) n := ⟨fun _ hd => mul_lt h hd, fun _ _ hd he hh => mul_inj h hd he hh⟩
theorem per_of {n : Nat} {p : List Int} (h : p.length = n ∧ IsP p) : Per (at_ p) n := by rw [← h.1]; exact per_at h.2
theorem cycles_num {n : Nat} {p : List Int} (h : p.length = n ∧ IsP p) : (cycles p).length = cnum (at_ p) n := by
  unfold cycles natRows
  rw [List.length_map, cycs_len h.2, h.1]
theorem chain {n : Nat} (P : List (List Int)) : Alike n P → (n : Int) + (cnum (mul P) n : Int) ≤ total P + 2 * (num n (Cv.lab P) : Int) ∧ (total P + (n : Int) + (cnum (mul P) n : Int)) % 2 = 0 := by
  refine snoc_ind (p := fun P => Alike n P → (n : Int) + (cnum (mul P) n : Int) ≤ total P + 2 * (num n (Cv.lab P) : Int) ∧ (total P + (n : Int) + (cnum (mul P) n : Int)) % 2 = 0) (fun _ => ?_) (fun P p ih h => ?_) P
  · have e1 : cnum (mul []) n = n := num_id n
    have e2 : num n (Cv.lab []) = n := by
      show num n (fun k => k) = n
      unfold num tally
      rw [List.filter_eq_self.2 (fun x _ => by simp), List.length_range]
    have e3 : total [] = 0 := rfl
    rw [e1, e2, e3]; omega
  · have hP : Alike n P := fun q hq => h q (List.mem_append.2 (Or.inl hq))
    have hp := h p (List.mem_append.2 (Or.inr (List.mem_singleton.2 rfl)))
    obtain ⟨i1, i2⟩ := ih hP
    obtain ⟨r1, r2⟩ := rh (per_of hp) (per_mul hP) (pairs_in hP) (fun k hk => lab_mul hP (fun _ h => h) hk)
    have e1 : (fun k => at_ p (mul P k)) = mul (P ++ [p]) := funext fun k => (mul_snoc P p k).symm
    rw [e1] at r1 r2
    rw [← pairs_snoc P hp.1] at r1
    have e2 : total (P ++ [p]) = total P + ((n : Int) - (cnum (at_ p) n : Int)) := by
      rw [total_snoc]; unfold defect; rw [hp.1, cycles_num hp]
    rw [e2]
    unfold Cv.lab at *
    omega
theorem firsts_num {c : Nat → Nat} {n : Nat} (h : Ok c n) : (Cv.firsts c n).length = num n c := by
  rw [num_found h, ← List.length_map (f := c)]
  refine List.Perm.length_eq ((List.perm_ext_iff_of_nodup ?_ (found_nodup _ _)).2 fun x => ?_)
  · have hn : (Cv.firsts c n).Nodup := List.Nodup.sublist List.filter_sublist List.nodup_range
    rw [List.nodup_iff_pairwise_ne, List.pairwise_map]
    refine List.Pairwise.imp_of_mem ?_ (List.nodup_iff_pairwise_ne.1 hn)
    intro a b ha hb hab e
    have h1 := of_decide_eq_true (List.mem_filter.1 ha).2
    have h2 := of_decide_eq_true (List.mem_filter.1 hb).2
    rcases Nat.lt_trichotomy a b with h3 | h3 | h3
    · exact h2 a h3 e
    · exact hab h3
    · exact h1 b h3 e.symm
  · rw [found_mem, List.mem_map]
    constructor
    · rintro ⟨s, hs, e⟩; exact ⟨s, (List.mem_filter.1 hs).1, e⟩
    · rintro ⟨m, hm, rfl⟩
      obtain ⟨h1, h2, h3⟩ := Cv.leastOf_spec c m
      have := List.mem_range.1 hm
      exact ⟨Cv.leastOf c m, List.mem_filter.2 ⟨List.mem_range.2 (by omega), decide_eq_true fun k hk e => h3 k hk (e.trans h1)⟩, h1⟩
theorem parts_num {n : Nat} {L : List (List Int)} (h : Alike n L) (hd : Cv.deg L = n) : (Cv.partsN L).length = num n (Cv.lab L) := by
  unfold Cv.partsN Cv.classes
  rw [List.length_map, hd]
  exact firsts_num (Ok.all (pairs_in h))
theorem mul_id {L : List (List Int)} (h : Pass L) : cnum (mul L) (Cv.deg L) = Cv.deg L := (cnum_congr (f := fun k => k) h.2.2).trans (num_id _)
/-- Riemann and Hurwitz. -/
theorem hurwitz {L : List (List Int)} (h : CoverOk L) : 2 * (Cv.deg L : Int) - 2 ≤ total L ∧ total L % 2 = 0 := by
  obtain ⟨h1, h2⟩ := chain (n := Cv.deg L) L (alike h.1.2.1)
  rw [mul_id h.1] at h1 h2
  rw [← parts_num (alike h.1.2.1) rfl, h.2] at h1
  omega
theorem cover_facts {L : List (List Int)} (h : CoverOk L) : 0 ≤ (cover L).1 ∧ 2 - 2 * (cover L).1 = 2 * (Cv.deg L : Int) - total L := by
  obtain ⟨h1, h2⟩ := hurwitz h
  have e : (cover L).1 = (2 - 2 * (Cv.deg L : Int) + total L) / 2 := by
    unfold cover
    rw [if_pos h]
    rw [tdiv_even (k := (2 - 2 * (Cv.deg L : Int) + total L) / 2) (by omega)]
  rw [e]; omega

/-- One permutation led over by another. -/
theorem cnum_conj {c q p r : Nat → Nat} {n : Nat} (hc : Per c n) (hq : Per q n) (hp : Per p n) (hr : ∀ x, x < n → r (p x) = x ∧ p (r x) = x ∧ r x < n) (h : ∀ x, x < n → c x = r (q (p x))) : cnum c n = cnum q n := by
  unfold cnum
  refine num_relabel (Ok.all (arcs_in hc)) (Ok.all (arcs_in hq)) hp fun x hx y hy => ⟨fun e => ?_, fun e => ?_⟩
  · refine ker_le (F := fun x => mergeAll (arcs q n) (p x)) (fun z hz => ?_) e
    obtain ⟨h1, h2⟩ := arcs_mem.1 hz
    rw [h2, h _ h1]
    show _ = mergeAll (arcs q n) (p (r (q (p z.1))))
    rw [(hr _ (hq.lt _ (hp.lt _ h1))).2.1]
    exact arcs_same (hp.lt _ h1)
  · have h3 : (fun y => mergeAll (arcs c n) (r y)) (p x) = (fun y => mergeAll (arcs c n) (r y)) (p y) := by
      refine ker_le (F := fun y => mergeAll (arcs c n) (r y)) (fun z hz => ?_) e
      obtain ⟨h1, h2⟩ := arcs_mem.1 hz
      rw [h2]
      have h4 := arcs_same (f := c) (hr _ h1).2.2
      rw [h _ (hr _ h1).2.2, (hr _ h1).2.1] at h4
      exact h4
    have h4 : mergeAll (arcs c n) (r (p x)) = mergeAll (arcs c n) (r (p y)) := h3
    rwa [(hr x hx).1, (hr y hy).1] at h4

theorem deg_of {n : Nat} {L : List (List Int)} (h : Alike n L) (h1 : 1 ≤ L.length) : Cv.deg L = n := by
  cases L with
  | nil => simp at h1
  | cons p L => exact (h p (List.mem_cons_self ..)).1
theorem mul_append (A B : List (List Int)) (s : Nat) : mul (A ++ B) s = mul B (mul A s) := by simp [mul]
theorem total_append (A B : List (List Int)) : total (A ++ B) = total A + total B := by simp [total]
theorem braid_split {L : List (List Int)} {k : Nat} (h : k + 1 < L.length) : ∃ A p q B, L = A ++ [p, q] ++ B ∧ A.length = k ∧ L[k]? = some p ∧ L[k + 1]? = some q ∧ braided L k = A ++ [conj p q, p] ++ B := by
  obtain ⟨p, hp⟩ := get_some (show k < L.length by omega)
  obtain ⟨q, hq⟩ := get_some h
  refine ⟨L.take k, p, q, L.drop (k + 2), ?_, by rw [List.length_take]; omega, hp, hq, ?_⟩
  · apply List.ext_getElem?
    intro i
    rcases Nat.lt_trichotomy i k with h1 | h1 | h1
    · rw [List.append_assoc, List.getElem?_append_left (by rw [List.length_take]; omega), List.getElem?_take_of_lt h1]
    · subst h1
      rw [List.append_assoc, List.getElem?_append_right (by rw [List.length_take]; omega), hp, List.length_take, Nat.min_eq_left (by omega), Nat.sub_self]; rfl
    · by_cases h2 : i = k + 1
      · subst h2
        rw [List.append_assoc, List.getElem?_append_right (by rw [List.length_take]; omega), hq, List.length_take, Nat.min_eq_left (by omega), Nat.add_sub_cancel_left]; rfl
      · rw [List.getElem?_append_right (by simp; omega), List.getElem?_drop]
        congr 1
        simp; omega
  · unfold braided
    rw [List.getD_eq_getElem?_getD, List.getD_eq_getElem?_getD, hp, hq]
    simp only [Option.getD_some]
    generalize conj p q = c
    apply List.ext_getElem?
    intro i
    rcases Nat.lt_trichotomy i k with h1 | h1 | h1
    · rw [List.append_assoc, List.getElem?_append_left (by rw [List.length_take]; omega), List.getElem?_take_of_lt h1, List.getElem?_set_ne (by omega), List.getElem?_set_ne (by omega)]
    · subst h1
      rw [List.append_assoc, List.getElem?_append_right (by rw [List.length_take]; omega), List.getElem?_set_ne (by omega), List.getElem?_set_self (by omega), List.length_take, Nat.min_eq_left (by omega), Nat.sub_self]; rfl
    · by_cases h2 : i = k + 1
      · subst h2
        rw [List.append_assoc, List.getElem?_append_right (by rw [List.length_take]; omega), List.getElem?_set_self (by rw [List.length_set]; omega), List.length_take, Nat.min_eq_left (by omega), Nat.add_sub_cancel_left]; rfl
      · rw [List.getElem?_append_right (by simp; omega), List.getElem?_drop, List.getElem?_set_ne (by omega), List.getElem?_set_ne (by omega)]
        congr 1
        simp; omega
theorem conj_at {p q : List Int} {s : Nat} (hs : s < p.length) : at_ (conj p q) s = at_ (mirror p) (at_ q (at_ p s)) := at_of_row hs
theorem conj_isP {n : Nat} {p q : List Int} (hp : p.length = n ∧ IsP p) (hq : q.length = n ∧ IsP q) : (conj p q).length = n ∧ IsP (conj p q) := by
  refine ⟨by rw [conj_len, hp.1], ?_⟩
  rw [conj_prod]
  refine prod_isP (P := [p, q, mirror p]) fun r hr => ?_
  simp only [List.mem_cons, List.not_mem_nil, or_false] at hr
  rcases hr with rfl | rfl | rfl
  · exact ⟨rfl, hp.2⟩
  · exact ⟨hq.1.trans hp.1.symm, hq.2⟩
  · exact ⟨mirror_len _, Cv.mirror_isP hp.2⟩
theorem braid_facts {L : List (List Int)} {k : Nat} (h : Pass L) (hk : k + 1 < L.length) :
    Pass (braided L k) ∧ Cv.deg (braided L k) = Cv.deg L ∧ Cv.partsN (braided L k) = Cv.partsN L ∧ total (braided L k) = total L := by
  obtain ⟨h5, hP, hid⟩ := h
  have hL := alike hP
  obtain ⟨A, p, q, B, rfl, hA, _, _, hb⟩ := braid_split hk
  rw [hb]
  generalize hn : Cv.deg (A ++ [p, q] ++ B) = n at *
  have hp : p.length = n ∧ IsP p := hL p (by simp)
  have hq : q.length = n ∧ IsP q := hL q (by simp)
  have hc := conj_isP hp hq
  have hL' : Alike n (A ++ [conj p q, p] ++ B) := fun r hr => by
    simp only [List.mem_append, List.mem_cons, List.not_mem_nil, or_false] at hr
    rcases hr with (hr | rfl | rfl) | hr
    · exact hL r (by simp [hr])
    · exact hc
    · exact hp
    · exact hL r (by simp [hr])
  have hlen : (A ++ [conj p q, p] ++ B).length = (A ++ [p, q] ++ B).length := by simp
  have hd' : Cv.deg (A ++ [conj p q, p] ++ B) = n := deg_of hL' (by simp; omega)
  have hcp : ∀ t, t < n → at_ p (at_ (conj p q) t) = at_ q (at_ p t) := fun t ht => by
    rw [conj_at (by omega)]
    have h1 := at_lt hp.2 (d := t) (by omega)
    have h2 := at_lt hq.2 (d := at_ p t) (by omega)
    exact Cv.mirror_at hp.2 (by omega)
  have hAl : Alike n A := fun r hr => hL r (by simp [hr])
  refine ⟨⟨by rw [hlen]; exact h5, ⟨fun r hr => ?_, by rw [hlen]; exact hP.2.1, by rw [hlen]; exact hP.2.2.1, by rw [hd', ← hn]; exact hP.2.2.2.1, by rw [hd', ← hn]; exact hP.2.2.2.2⟩, fun s hs => ?_⟩, hd', ?_, ?_⟩
  · rw [hd']; exact hL' r hr
  · rw [hd'] at hs
    refine Eq.trans ?_ (hid s hs)
    rw [mul_append, mul_append, mul_append, mul_append]
    congr 1
    exact hcp _ (mul_lt hAl hs)
  · unfold Cv.partsN
    rw [hd', hn]
    refine Cv.classes_ker (fun i j => ⟨fun e => ker_le (fun z hz => ?_) e, fun e => ker_le (fun z hz => ?_) e⟩) n
    · obtain ⟨r, hr, h1, h2⟩ := pairs_of hL' hz
      show Cv.lab _ _ = Cv.lab _ _
      rw [h2]
      simp only [List.mem_append, List.mem_cons, List.not_mem_nil, or_false] at hr
      rcases hr with (hr | rfl | rfl) | hr
      · exact lab_step hL (by simp [hr]) h1
      · have h3 := at_lt hp.2 (d := z.1) (by omega)
        have h4 := at_lt hc.2 (d := z.1) (by omega)
        have h5 := lab_step hL (p := p) (by simp) h1
        have h6 := lab_step hL (p := q) (by simp) (s := at_ p z.1) (by omega)
        have h7 := lab_step hL (p := p) (by simp) (s := at_ (conj p q) z.1) (by omega)
        rw [hcp _ h1] at h7
        exact h5.trans (h6.trans h7.symm)
      · exact lab_step hL (by simp) h1
      · exact lab_step hL (by simp [hr]) h1
    · obtain ⟨r, hr, h1, h2⟩ := pairs_of hL hz
      show Cv.lab _ _ = Cv.lab _ _
      rw [h2]
      simp only [List.mem_append, List.mem_cons, List.not_mem_nil, or_false] at hr
      rcases hr with (hr | rfl | rfl) | hr
      · exact lab_step hL' (by simp [hr]) h1
      · exact lab_step hL' (by simp) h1
      · obtain ⟨t, ht, e⟩ := (per_of hp).pre h1
        have h3 := at_lt hc.2 (d := t) (by omega)
        have h5 := lab_step hL' (p := p) (by simp) ht
        have h6 := lab_step hL' (p := conj p r) (by simp) ht
        have h7 := lab_step hL' (p := p) (by simp) (s := at_ (conj p r) t) (by omega)
        rw [hcp _ ht] at h7
        rw [e] at h5 h7
        exact h5.symm.trans (h6.trans h7)
      · exact lab_step hL' (by simp [hr]) h1
  · have e : defect (conj p q) = defect q := by
      unfold defect
      rw [cycles_num hc, cycles_num hq, hc.1, hq.1]
      rw [cnum_conj (per_of hc) (per_of hq) (per_of hp) (r := at_ (mirror p)) (fun x hx => ⟨inv_at hp.2 (by omega), Cv.mirror_at hp.2 (by omega), ?_⟩) (fun x hx => conj_at (by omega))]
      have := at_lt (Cv.mirror_isP hp.2) (d := x) (by rw [mirror_len]; omega)
      rw [mirror_len] at this; omega
    rw [total_append, total_append, total_append, total_append]
    simp only [total, List.map_cons, List.map_nil, List.sum_cons, List.sum_nil]
    rw [e]; omega

theorem parts_cN {l : List Int} (h : IsM l) : parts l = cN (at_ l) l.length := by
  unfold parts ring cN
  refine num_mem (pairsTo_lt h (Nat.le_refl _)) fun p => ?_
  rw [tied_mem]
  unfold pairsTo
  rw [List.mem_flatMap]
  constructor
  · rintro ⟨d, hd, hp⟩
    have hd := List.mem_range.1 hd
    simp only [pair1, List.mem_cons, List.not_mem_nil, or_false] at hp
    rcases hp with rfl | rfl
    · exact ⟨hd, Or.inl rfl⟩
    · exact ⟨hd, Or.inr rfl⟩
  · rintro ⟨h1, h2⟩
    refine ⟨p.1, List.mem_range.2 h1, ?_⟩
    simp only [pair1, List.mem_cons, List.not_mem_nil, or_false]
    rcases h2 with h2 | h2
    · exact Or.inl (by rw [← h2])
    · exact Or.inr (by rw [← h2])
/-- The passport of a map in one part. -/
theorem map_cover {m : List Int} (h : MapOk m) (hone : parts m = 1) : CoverOk (mapPass m) ∧ (cover (mapPass m)).1 = genus m := by
  obtain ⟨hM, h5⟩ := h
  have hok : CloseOk [m, mates m.length] := (map_ok hM).2 h5
  have e0 : mapPass m = [m, mates m.length] ++ [last [m, mates m.length]] := by
    unfold mapPass
    rw [if_pos ⟨hM, h5⟩]
    unfold closed
    rw [if_pos hok]
  have hpass := closed_pass hok
  have hPp := hok.2
  rw [e0]
  have hd : Cv.deg ([m, mates m.length] ++ [last [m, mates m.length]]) = m.length := rfl
  have hL := alike hpass.2.1
  rw [hd] at hL
  generalize hX : last [m, mates m.length] = X at *
  have hm := hL m (by simp)
  have hmt := hL (mates m.length) (by simp)
  have hXp := hL X (by simp)
  have hev := hM.2.2.1
  obtain ⟨n, hn⟩ : ∃ n, m.length = n := ⟨_, rfl⟩
  have hml : m.length = n ∧ IsP m := ⟨hn, hM.2.2.2⟩
  rw [hn] at hX hpass hd hL hPp hm hmt hXp hev ⊢
  replace hm := hml
  have hmx : ∀ t, t < n → at_ X (mate (at_ m t)) = t := fun t ht => by
    have := hpass.2.2 t (by rw [hd]; exact ht)
    rw [mul_append] at this
    have e : mul [m, mates n] t = mate (at_ m t) := by
      show at_ (mates n) (at_ m t) = _
      exact at_of_row ((per_of hm).lt t ht)
    rw [e] at this
    exact this
  have hfm := (per_mate hev).comp (per_of hm)
  have hcX : cnum (at_ X) n = cnum (fun k => at_ m (mate k)) n := by
    rw [cnum_inv hfm (per_of hXp) hmx]
    exact cnum_conj hfm ((per_of hm).comp (per_mate hev)) (per_mate hev) (r := mate) (fun x hx => ⟨mate_mate x, mate_mate x, mate_lt hev hx⟩) (fun x hx => by rw [mate_mate])
  have hcm : cnum (at_ (mates n)) n = n / 2 := by
    rw [cnum_congr (f := mate) (g := at_ (mates n)) (fun d hd => at_of_row hd)]; exact cnum_mate hev
  have hcn : num n (Cv.lab ([m, mates n] ++ [X])) = cN (at_ m) n := by
    unfold cN Cv.lab
    refine num_iff (pairs_in hL) (tied_in (per_of hm) hev) (fun z hz => ?_) (fun z hz => ?_)
    · obtain ⟨r, hr, h1, h2⟩ := pairs_of hL hz
      rw [h2]
      simp only [List.mem_append, List.mem_cons, List.not_mem_nil, or_false] at hr
      rcases hr with (rfl | rfl) | rfl
      · exact tied_arc h1
      · rw [show at_ (mates n) z.1 = mate z.1 from at_of_row h1]; exact tied_mate h1
      · obtain ⟨t, ht, e⟩ := hfm.pre h1
        rw [← e, hmx t ht]
        exact ((tied_arc (f := at_ m) ht).trans (tied_mate ((per_of hm).lt t ht))).symm
    · obtain ⟨h1, h2 | h2⟩ := tied_mem.1 hz
      · rw [h2]; exact lab_step hL (p := m) (by simp) h1
      · rw [h2]
        have := lab_step hL (p := mates n) (by simp) h1
        rw [show at_ (mates n) z.1 = mate z.1 from at_of_row h1] at this
        exact this
  have hpar : parts m = cN (at_ m) n := by
    have := parts_cN hM
    rw [hn] at this; exact this
  have hc : CoverOk ([m, mates n] ++ [X]) := ⟨hpass, by rw [parts_num hL hd, hcn, ← hpar, hone]⟩
  refine ⟨hc, ?_⟩
  have hf := (cover_facts hc).2
  rw [hd] at hf
  have ht : total ([m, mates n] ++ [X]) = ((n : Int) - (cnum (at_ m) n : Int)) + ((n : Int) - ((n / 2 : Nat) : Int)) + ((n : Int) - (cnum (fun k => at_ m (mate k)) n : Int)) := by
    simp only [total, List.map_append, List.map_cons, List.map_nil, List.sum_append, List.sum_cons, List.sum_nil, defect]
    rw [cycles_num hm, cycles_num hmt, cycles_num hXp, hm.1, hmt.1, hXp.1, hcX, hcm]; omega
  rw [genus_gen hM, hn]
  obtain ⟨k, g1, g2⟩ := gen_half (per_of hm) hev
  rw [g2, ← hpar, hone]
  unfold vN fN at g1
  omega
end Br
end Go.Proofs.Ytpebgompfgkljaa
