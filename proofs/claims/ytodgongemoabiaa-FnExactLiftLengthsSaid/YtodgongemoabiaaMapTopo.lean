/-
  Permutations of darts: how many cycles they have when two images change places; that Euler's number of a map is even and at most twice its parts; how the genus changes when a dart is laid behind another.
-/
import Derived.Test.YtodgongemoabiaaBase
import Derived.Test.YtodgongemoabiaaClass
import Derived.Test.YtodgongemoabiaaTri
import Derived.Test.YtodgongemoabiaaTopo
import Derived.Test.YtodgongemoabiaaMap
namespace Go.Proofs.Ytodgongemoabiaa

namespace Mp
open Cls
/-- f leads the numbers below n to one another, each to one of its own. -/
structure Per (f : Nat → Nat) (n : Nat) : Prop where
  lt : ∀ d, d < n → f d < n
  inj : ∀ d e, d < n → e < n → f d = f e → d = e
theorem Per.perm {f : Nat → Nat} {n : Nat} (h : Per f n) : Cls.Perm f n := by
  have hnd : ((List.range n).map f).Nodup := by
    rw [List.nodup_iff_pairwise_ne, List.pairwise_map, List.pairwise_iff_getElem]
    intro i j hi hj hij
    simp only [List.length_range] at hi hj
    simp only [List.getElem_range]
    intro e
    have := h.inj i j hi hj e
    omega
  refine nodup_perm hnd (fun y hy => ?_) (by simp)
  obtain ⟨x, hx, rfl⟩ := List.mem_map.1 hy
  exact h.lt x (List.mem_range.1 hx)
theorem Per.pre {f : Nat → Nat} {n : Nat} (h : Per f n) {y : Nat} (hy : y < n) : ∃ x, x < n ∧ f x = y := by
  obtain ⟨x, hx, e⟩ := List.mem_map.1 (h.perm.mem_iff.2 (List.mem_range.2 hy))
  exact ⟨x, List.mem_range.1 hx, e⟩
theorem per_at {l : List Int} (h : IsP l) : Per (at_ l) l.length := ⟨fun _ hd => at_lt h hd, fun _ _ hd he => at_inj h hd he⟩
theorem per_mate {n : Nat} (hn : n % 2 = 0) : Per mate n := ⟨fun _ hd => mate_lt hn hd, fun _ _ _ _ h => mate_inj h⟩
theorem Per.comp {f g : Nat → Nat} {n : Nat} (hf : Per f n) (hg : Per g n) : Per (fun k => f (g k)) n :=
  ⟨fun d hd => hf.lt _ (hg.lt d hd), fun d e hd he h => hg.inj d e hd he (hf.inj _ _ (hg.lt d hd) (hg.lt e he) h)⟩
theorem Per.congr {f g : Nat → Nat} {n : Nat} (hf : Per f n) (h : ∀ d, d < n → g d = f d) : Per g n :=
  ⟨fun d hd => by rw [h d hd]; exact hf.lt d hd, fun d e hd he hh => hf.inj d e hd he (by rw [← h d hd, ← h e he]; exact hh)⟩

def arcs (f : Nat → Nat) (n : Nat) : List (Nat × Nat) := (List.range n).map fun k => (k, f k)
theorem arcs_mem {f : Nat → Nat} {n : Nat} {p : Nat × Nat} : p ∈ arcs f n ↔ p.1 < n ∧ p.2 = f p.1 := by
  unfold arcs
  rw [List.mem_map]
  constructor
  · rintro ⟨k, hk, rfl⟩; exact ⟨List.mem_range.1 hk, rfl⟩
  · rintro ⟨h1, h2⟩; exact ⟨p.1, List.mem_range.2 h1, by rw [← h2]⟩
theorem arcs_in {f : Nat → Nat} {n : Nat} (h : Per f n) : In n (arcs f n) := fun p hp => by
  obtain ⟨h1, h2⟩ := arcs_mem.1 hp; exact ⟨h1, by rw [h2]; exact h.lt _ h1⟩
theorem arcs_eq {f : Nat → Nat} {n k : Nat} (hk : k < n) (es : List (Nat × Nat)) (h : ∀ p ∈ arcs f n, p ∈ es) : mergeAll es k = mergeAll es (f k) := eq_of_mem (h (k, f k) (arcs_mem.2 ⟨hk, rfl⟩))
theorem arcs_same {f : Nat → Nat} {n k : Nat} (hk : k < n) : mergeAll (arcs f n) k = mergeAll (arcs f n) (f k) := arcs_eq hk _ fun _ h => h
theorem arcs_congr {f g : Nat → Nat} {n : Nat} (h : ∀ d, d < n → g d = f d) : arcs g n = arcs f n := by
  unfold arcs; exact List.map_congr_left fun k hk => by rw [h k (List.mem_range.1 hk)]
def cnum (f : Nat → Nat) (n : Nat) : Nat := num n (mergeAll (arcs f n))
theorem In.append {N : Nat} {es fs : List (Nat × Nat)} (h : In N es) (h' : In N fs) : In N (es ++ fs) := fun p hp => (List.mem_append.1 hp).elim (h p) (h' p)
/-- Pairs that lie in the same classes, one way and the other. -/
theorem num_iff {N : Nat} {es fs : List (Nat × Nat)} (h1 : In N es) (h2 : In N fs) (h3 : ∀ p ∈ es, mergeAll fs p.1 = mergeAll fs p.2) (h4 : ∀ p ∈ fs, mergeAll es p.1 = mergeAll es p.2) : num N (mergeAll es) = num N (mergeAll fs) :=
  num_ker (Ok.all h1) (Ok.all h2) fun _ _ _ _ => ⟨ker_le h3, ker_le h4⟩

def swp (f : Nat → Nat) (a b : Nat) : Nat → Nat := fun k => if k = a then f b else if k = b then f a else f k
theorem swp_l (f : Nat → Nat) (a b : Nat) : swp f a b a = f b := by simp [swp]
theorem swp_r (f : Nat → Nat) (a b : Nat) : swp f a b b = f a := by unfold swp; split <;> simp_all
theorem swp_o {f : Nat → Nat} {a b k : Nat} (h1 : k ≠ a) (h2 : k ≠ b) : swp f a b k = f k := by simp [swp, h1, h2]
theorem swp_swp (f : Nat → Nat) (a b : Nat) : swp (swp f a b) a b = f := by
  funext k
  by_cases h1 : k = a
  · subst h1; rw [swp_l, swp_r]
  · by_cases h2 : k = b
    · subst h2; rw [swp_r, swp_l]
    · rw [swp_o h1 h2, swp_o h1 h2]
theorem Per.swp {f : Nat → Nat} {n a b : Nat} (h : Per f n) (ha : a < n) (hb : b < n) : Per (swp f a b) n := by
  refine ⟨fun d hd => ?_, fun d e hd he hh => ?_⟩
  · unfold Mp.swp; split
    · exact h.lt _ hb
    · split
      · exact h.lt _ ha
      · exact h.lt _ hd
  · unfold Mp.swp at hh
    by_cases d1 : d = a
    · by_cases e1 : e = a
      · omega
      · rw [if_pos d1, if_neg e1] at hh
        by_cases e2 : e = b
        · rw [if_pos e2] at hh; have := h.inj _ _ hb ha hh; omega
        · rw [if_neg e2] at hh; have := h.inj _ _ hb he hh; omega
    · rw [if_neg d1] at hh
      by_cases d2 : d = b
      · rw [if_pos d2] at hh
        by_cases e1 : e = a
        · rw [if_pos e1] at hh; have := h.inj _ _ ha hb hh; omega
        · rw [if_neg e1] at hh
          by_cases e2 : e = b
          · omega
          · rw [if_neg e2] at hh; have := h.inj _ _ ha he hh; omega
      · rw [if_neg d2] at hh
        by_cases e1 : e = a
        · rw [if_pos e1] at hh; have := h.inj _ _ hd hb hh; omega
        · rw [if_neg e1] at hh
          by_cases e2 : e = b
          · rw [if_pos e2] at hh; have := h.inj _ _ hd ha hh; omega
          · rw [if_neg e2] at hh; exact h.inj _ _ hd he hh
/-- The arcs but those of a and b. -/
def others (n a b : Nat) : List Nat := (List.range n).filter fun k => k != a && k != b
def rest2 (f : Nat → Nat) (n a b : Nat) : List (Nat × Nat) := (others n a b).map fun k => (k, f k)
theorem others_mem {n a b k : Nat} : k ∈ others n a b ↔ k < n ∧ k ≠ a ∧ k ≠ b := by
  unfold others; rw [List.mem_filter, List.mem_range]; simp
theorem others_perm {n a b : Nat} (ha : a < n) (hb : b < n) (hab : a ≠ b) : (List.range n).Perm (a :: b :: others n a b) := by
  refine (List.perm_ext_iff_of_nodup List.nodup_range ?_).2 fun k => ?_
  · rw [List.nodup_cons, List.nodup_cons]
    refine ⟨?_, ?_, List.nodup_range.filter _⟩
    · intro h
      rcases List.mem_cons.1 h with h | h
      · exact hab h
      · exact (others_mem.1 h).2.1 rfl
    · intro h; exact (others_mem.1 h).2.2 rfl
  · rw [List.mem_range, List.mem_cons, List.mem_cons, others_mem]
    constructor
    · intro h; by_cases e1 : k = a
      · exact Or.inl e1
      · by_cases e2 : k = b
        · exact Or.inr (Or.inl e2)
        · exact Or.inr (Or.inr ⟨h, e1, e2⟩)
    · rintro (h | h | h)
      · rw [h]; exact ha
      · rw [h]; exact hb
      · exact h.1
theorem sum_others {n a b : Nat} (ha : a < n) (hb : b < n) (hab : a ≠ b) (g : Nat → Nat) : ((List.range n).map g).sum = g a + (g b + ((others n a b).map g).sum) := by
  have := ((others_perm ha hb hab).map g).sum_nat
  simpa using this
theorem rest2_mem {f : Nat → Nat} {n a b : Nat} {p : Nat × Nat} : p ∈ rest2 f n a b ↔ p.1 < n ∧ p.1 ≠ a ∧ p.1 ≠ b ∧ p.2 = f p.1 := by
  unfold rest2
  rw [List.mem_map]
  constructor
  · rintro ⟨k, hk, rfl⟩
    have := others_mem.1 hk
    exact ⟨this.1, this.2.1, this.2.2, rfl⟩
  · rintro ⟨h1, h2, h3, h4⟩; exact ⟨p.1, others_mem.2 ⟨h1, h2, h3⟩, by rw [← h4]⟩
section
variable {f : Nat → Nat} {n a b : Nat}
theorem rest2_in (h : Per f n) : In n (rest2 f n a b) := fun p hp => by
  obtain ⟨h1, _, _, h2⟩ := rest2_mem.1 hp; exact ⟨h1, by rw [h2]; exact h.lt _ h1⟩
/-- Beginnings and ends are as many. -/
theorem rest2_even (h : Per f n) (ha : a < n) (hb : b < n) (hab : a ≠ b) {S : Nat → Bool} (hS : Closed S (rest2 f n a b)) : bit (S a) + bit (S b) = bit (S (f a)) + bit (S (f b)) := by
  have h1 := perm_sum h.perm (fun k => bit (S k))
  rw [sum_others ha hb hab, sum_others ha hb hab] at h1
  have h2 : ((others n a b).map fun i => bit (S (f i))) = (others n a b).map fun k => bit (S k) := List.map_congr_left fun k hk => by
    have hk := others_mem.1 hk
    have := hS (k, f k) (rest2_mem.2 ⟨hk.1, hk.2.1, hk.2.2, rfl⟩)
    rw [show S k = S (f k) from this]
  rw [h2] at h1
  omega
theorem rest2_quad (h : Per f n) (ha : a < n) (hb : b < n) (hab : a ≠ b) : Quad n (rest2 f n a b) a (f a) (f b) b :=
  ⟨rest2_in h, ha, h.lt _ ha, h.lt _ hb, hb, fun S hS => by have := rest2_even h ha hb hab hS; omega⟩
theorem rest2_apart (h : Per f n) (ha : a < n) (hb : b < n) (hab : a ≠ b) (he : mergeAll (rest2 f n a b) a = mergeAll (rest2 f n a b) b) : False := by
  have hc := Closed.ofCls (rest2 f n a b) (mergeAll (rest2 f n a b) a)
  have h1 := nodes_le hc (rest2_in h)
  generalize hS : (fun v => mergeAll (rest2 f n a b) v == mergeAll (rest2 f n a b) a) = S at *
  have hSa : S a = true := by rw [← hS]; simp
  have hSb : S b = true := by rw [← hS]; simp [he]
  have h2 : numS S n (mergeAll (rest2 f n a b)) ≤ 1 := by
    unfold numS
    have key : ∀ {l : List Nat} {r : Nat}, l.Nodup → (∀ x ∈ l, x = r) → l.length ≤ 1 := fun {l r} hn hl => by
      cases l with
      | nil => simp
      | cons x t =>
        cases t with
        | nil => simp
        | cons y t =>
          have := hl x (by simp)
          have := hl y (by simp)
          rw [List.nodup_cons] at hn
          exact absurd (by simp_all) hn.1
    refine key (r := mergeAll (rest2 f n a b) a) (List.nodup_range.filter _) fun x hx => ?_
    have := (List.mem_filter.1 hx).2
    rw [← hS] at this
    simp only [Bool.and_eq_true, beq_iff_eq] at this
    rw [← this.2]; exact this.1
  have h3 : inE S (rest2 f n a b) + 2 = nodes S n := by
    unfold inE nodes rest2
    rw [(others_perm ha hb hab).countP_eq, List.countP_map, List.countP_cons, List.countP_cons, hSa, hSb]
    rfl
  omega
/-- The classes of the arcs, by those of the others. -/
theorem arcs_num (h : Per f n) (ha : a < n) (hb : b < n) : num n (mergeAll (rest2 f n a b ++ [(a, f a), (f b, b)])) = cnum f n := by
  refine num_iff ?_ (arcs_in h) (fun p hp => ?_) (fun p hp => ?_)
  · exact In.append (rest2_in h) fun p hp => by
      simp only [List.mem_cons, List.not_mem_nil, or_false] at hp
      rcases hp with rfl | rfl
      · exact ⟨ha, h.lt _ ha⟩
      · exact ⟨h.lt _ hb, hb⟩
  · rcases List.mem_append.1 hp with hp | hp
    · obtain ⟨h1, _, _, h2⟩ := rest2_mem.1 hp
      rw [h2]; exact arcs_same h1
    · simp only [List.mem_cons, List.not_mem_nil, or_false] at hp
      rcases hp with rfl | rfl
      · exact arcs_same ha
      · exact (arcs_same hb).symm
  · obtain ⟨h1, h2⟩ := arcs_mem.1 hp
    obtain ⟨k, y⟩ := p
    simp only at h1 h2
    subst h2
    by_cases e1 : k = a
    · subst e1; exact eq_of_mem (by simp)
    · by_cases e2 : k = b
      · subst e2; exact (eq_of_mem (a := f k) (b := k) (by simp)).symm
      · exact eq_of_mem (List.mem_append.2 (Or.inl (rest2_mem.2 ⟨h1, e1, e2, rfl⟩)))
theorem rest2_swp : rest2 (swp f a b) n a b = rest2 f n a b := by
  unfold rest2
  exact List.map_congr_left fun k hk => by have hk := others_mem.1 hk; rw [swp_o hk.2.1 hk.2.2]
theorem swp_num (h : Per f n) (ha : a < n) (hb : b < n) : num n (mergeAll (rest2 f n a b ++ [(a, f b), (f a, b)])) = cnum (swp f a b) n := by
  have := arcs_num (h.swp ha hb) ha hb
  rw [rest2_swp, swp_l, swp_r] at this
  exact this
theorem rest2_sub {k y : Nat} (h : mergeAll (rest2 f n a b) k = mergeAll (rest2 f n a b) y) : mergeAll (arcs f n) k = mergeAll (arcs f n) y :=
  ker_le (fun p hp => by obtain ⟨h1, _, _, h2⟩ := rest2_mem.1 hp; rw [h2]; exact arcs_same h1) h
/-- Two images change places: a cycle is parted, or two are joined. -/
theorem swp_cases (h : Per f n) (ha : a < n) (hb : b < n) (hab : a ≠ b) :
    (mergeAll (arcs f n) a ≠ mergeAll (arcs f n) b ∧ cnum (swp f a b) n + 1 = cnum f n) ∨ (mergeAll (arcs f n) a = mergeAll (arcs f n) b ∧ cnum (swp f a b) n = cnum f n + 1) := by
  have hq := (rest2_quad h ha hb hab).cases
  rw [arcs_num h ha hb, swp_num h ha hb] at hq
  rcases hq with ⟨h1, h2, h3, h4⟩ | ⟨h1, h2, h3, h4⟩ | ⟨h1, h2, h3, h4⟩ | ⟨h1, h2, h3, h4⟩
  · refine Or.inl ⟨fun he => ?_, h4⟩
    -- the arcs of a and b lie in classes of the others
    have key : ∀ p ∈ arcs f n, mergeAll (rest2 f n a b) p.1 = mergeAll (rest2 f n a b) p.2 := fun p hp => by
      obtain ⟨h5, h6⟩ := arcs_mem.1 hp
      obtain ⟨k, y⟩ := p
      simp only at h5 h6
      subst h6
      by_cases e1 : k = a
      · subst e1; exact h1
      · by_cases e2 : k = b
        · subst e2; exact h2.symm
        · exact eq_of_mem (rest2_mem.2 ⟨h5, e1, e2, rfl⟩)
    have := ker_le key he
    exact h3 (this.trans h2.symm)
  · exact Or.inr ⟨(rest2_sub h1).trans (arcs_same hb).symm, h4⟩
  · exact absurd h1 (fun e => rest2_apart h ha hb hab e)
  · exact absurd h3 (fun e => rest2_apart h ha hb hab e)
theorem swp_diff (h : Per f n) (ha : a < n) (hb : b < n) (hd : mergeAll (arcs f n) a ≠ mergeAll (arcs f n) b) : cnum (swp f a b) n + 1 = cnum f n := by
  rcases swp_cases h ha hb (fun e => hd (by rw [e])) with ⟨_, h2⟩ | ⟨h1, _⟩
  · exact h2
  · exact absurd h1 hd
theorem swp_same (h : Per f n) (ha : a < n) (hb : b < n) (hab : a ≠ b) (hd : mergeAll (arcs f n) a = mergeAll (arcs f n) b) : cnum (swp f a b) n = cnum f n + 1 := by
  rcases swp_cases h ha hb hab with ⟨h1, _⟩ | ⟨_, h2⟩
  · exact absurd hd h1
  · exact h2
/-- A number that leads to itself is a cycle of its own. -/
theorem fix_apart (h : Per f n) (ha : a < n) (hf : f a = a) (hb : b ≠ a) : mergeAll (arcs f n) a ≠ mergeAll (arcs f n) b := by
  intro he
  have := ker_le (F := fun k => k == a) (fun p hp => by
    obtain ⟨h1, h2⟩ := arcs_mem.1 hp
    rw [h2]
    by_cases e : p.1 = a
    · rw [e, hf]
    · have : f p.1 ≠ a := fun hh => e (h.inj _ _ h1 ha (hh.trans hf.symm))
      rw [beq_eq_false_iff_ne.2 e, beq_eq_false_iff_ne.2 this]) he
  simp [hb] at this
theorem cnum_le (f : Nat → Nat) (n : Nat) : cnum f n ≤ n := by
  unfold cnum num
  have := tally_le (mergeAll (arcs f n)) (List.range n)
  rwa [List.length_range] at this
end

/-- Vertices, faces, parts. -/
def vN (f : Nat → Nat) (n : Nat) : Nat := cnum f n
def fN (f : Nat → Nat) (n : Nat) : Nat := cnum (fun k => f (mate k)) n
def tied (f : Nat → Nat) (n : Nat) : List (Nat × Nat) := arcs f n ++ arcs mate n
def cN (f : Nat → Nat) (n : Nat) : Nat := num n (mergeAll (tied f n))
section
variable {f : Nat → Nat} {n a b : Nat}
theorem tied_in (h : Per f n) (hn : n % 2 = 0) : In n (tied f n) := In.append (arcs_in h) (arcs_in (per_mate hn))
theorem tied_arc {k : Nat} (hk : k < n) : mergeAll (tied f n) k = mergeAll (tied f n) (f k) := arcs_eq hk _ fun _ h => List.mem_append.2 (Or.inl h)
theorem tied_mate {k : Nat} (hk : k < n) : mergeAll (tied f n) k = mergeAll (tied f n) (mate k) := arcs_eq hk _ fun _ h => List.mem_append.2 (Or.inr h)
theorem tied_mem {p : Nat × Nat} : p ∈ tied f n ↔ p.1 < n ∧ (p.2 = f p.1 ∨ p.2 = mate p.1) := by
  unfold tied; rw [List.mem_append, arcs_mem, arcs_mem]
  constructor
  · rintro (h | h)
    · exact ⟨h.1, Or.inl h.2⟩
    · exact ⟨h.1, Or.inr h.2⟩
  · rintro ⟨h, h2 | h2⟩
    · exact Or.inl ⟨h, h2⟩
    · exact Or.inr ⟨h, h2⟩
theorem face_tied (hn : n % 2 = 0) {x y : Nat} (h : mergeAll (arcs (fun k => f (mate k)) n) x = mergeAll (arcs (fun k => f (mate k)) n) y) : mergeAll (tied f n) x = mergeAll (tied f n) y :=
  ker_le (fun p hp => by
    obtain ⟨h1, h2⟩ := arcs_mem.1 hp
    rw [h2]
    exact (tied_mate h1).trans (tied_arc (mate_lt hn h1))) h
theorem face_swp (f : Nat → Nat) (a b : Nat) : (fun k => swp f a b (mate k)) = swp (fun k => f (mate k)) (mate a) (mate b) := by
  funext k
  show swp f a b (mate k) = swp (fun k => f (mate k)) (mate a) (mate b) k
  unfold swp
  simp only [mate_mate]
  have e : ∀ c, (mate k = c) = (k = mate c) := fun c => propext ⟨fun h => by rw [← h, mate_mate], fun h => by rw [h, mate_mate]⟩
  simp only [e]
/-- A dart that was alone at its vertex is laid behind another. -/
theorem insert_cases (h : Per f n) (hn : n % 2 = 0) (ha : a < n) (hb : b < n) (hf : f a = a) (hab : b ≠ a) :
    vN (swp f a b) n + 1 = vN f n ∧
    ((mergeAll (tied f n) a = mergeAll (tied f n) b ∧ cN (swp f a b) n = cN f n ∧ (fN (swp f a b) n = fN f n + 1 ∧ mergeAll (arcs (fun k => f (mate k)) n) (mate a) = mergeAll (arcs (fun k => f (mate k)) n) (mate b) ∨ fN (swp f a b) n + 1 = fN f n)) ∨
     (mergeAll (tied f n) a ≠ mergeAll (tied f n) b ∧ cN (swp f a b) n + 1 = cN f n ∧ fN (swp f a b) n + 1 = fN f n)) := by
  refine ⟨swp_diff h ha hb (fix_apart h ha hf hab), ?_⟩
  have hfc := h.comp (per_mate hn)
  have hma := mate_lt hn ha
  have hmb := mate_lt hn hb
  have hmab : mate a ≠ mate b := fun e => hab (mate_inj e).symm
  have hF : fN (swp f a b) n = cnum (swp (fun k => f (mate k)) (mate a) (mate b)) n := by unfold fN; rw [face_swp]
  have hC : cN (swp f a b) n = num n (mergeAll (tied f n ++ [(a, b)])) := by
    unfold cN
    have hI : In n (tied f n ++ [(a, b)]) := In.append (tied_in h hn) (fun p hp => by rw [List.mem_singleton.1 hp]; exact ⟨ha, hb⟩)
    have hab' : mergeAll (tied f n ++ [(a, b)]) a = mergeAll (tied f n ++ [(a, b)]) b := eq_of_mem (by simp)
    refine num_iff (tied_in (h.swp ha hb) hn) hI (fun p hp => ?_) (fun p hp => ?_)
    · obtain ⟨k, y⟩ := p
      obtain ⟨h1, h2⟩ := tied_mem.1 hp
      simp only at h1 h2 ⊢
      rcases h2 with rfl | rfl
      · unfold Mp.swp; split
        · rename_i e; rw [e, hab']; exact eq_append (tied_arc hb)
        · split
          · rename_i e; rw [e, hf]; exact hab'.symm
          · exact eq_append (tied_arc h1)
      · exact eq_append (tied_mate h1)
    · have e1 : mergeAll (tied (swp f a b) n) b = mergeAll (tied (swp f a b) n) a := by
        have := tied_arc (f := swp f a b) hb; rwa [swp_r, hf] at this
      rcases List.mem_append.1 hp with hp | hp
      · obtain ⟨k, y⟩ := p
        obtain ⟨h1, h2⟩ := tied_mem.1 hp
        simp only at h1 h2 ⊢
        rcases h2 with rfl | rfl
        · by_cases k1 : k = a
          · rw [k1, hf]
          · by_cases k2 : k = b
            · rw [k2, e1]
              have := tied_arc (f := swp f a b) ha; rwa [swp_l] at this
            · have := tied_arc (f := swp f a b) h1; rwa [swp_o k1 k2] at this
        · exact tied_mate h1
      · rw [List.mem_singleton.1 hp]; exact e1.symm
  by_cases he : mergeAll (tied f n) a = mergeAll (tied f n) b
  · refine Or.inl ⟨he, ?_, ?_⟩
    · rw [hC, num_same (p := (a, b)) he]; rfl
    · rw [hF]
      rcases swp_cases hfc hma hmb hmab with ⟨_, h2⟩ | ⟨h1, h2⟩
      · exact Or.inr h2
      · exact Or.inl ⟨h2, h1⟩
  · refine Or.inr ⟨he, ?_, ?_⟩
    · rw [hC, num_diff (p := (a, b)) (tied_in h hn) ha hb he]; rfl
    · rw [hF]
      refine swp_diff hfc hma hmb fun e => he ?_
      exact (tied_mate ha).trans ((face_tied hn e).trans (tied_mate hb).symm)
end
/-- How many edges there are. -/
theorem num_half (m : Nat) : num (2 * m) (fun k => 2 * (k / 2)) = m := by
  unfold num tally
  induction m with
  | zero => rfl
  | succ m ih =>
    rw [show 2 * (m + 1) = 2 * m + 1 + 1 from by omega, List.range_succ, List.range_succ, List.append_assoc, List.filter_append, List.length_append, ih]
    have e1 : (2 * (2 * m / 2) == 2 * m) = true := by simp
    have e2 : (2 * ((2 * m + 1) / 2) == 2 * m + 1) = false := beq_eq_false_iff_ne.2 (by omega)
    simp [List.filter_cons, e1, e2]
theorem cnum_mate {n : Nat} (hn : n % 2 = 0) : cnum mate n = n / 2 := by
  have h : Ok (fun k => 2 * (k / 2)) n := ⟨fun k hk => by show 2 * (k / 2) < n; omega, fun k _ => by show 2 * (2 * (k / 2) / 2) = 2 * (k / 2); omega⟩
  have e := num_half (n / 2)
  rw [show 2 * (n / 2) = n from by omega] at e
  rw [← e]
  unfold cnum
  refine num_ker (Ok.all (arcs_in (per_mate hn))) h fun x hx y hy => ⟨fun hh => ?_, fun hh => ?_⟩
  · exact ker_le (F := fun k => 2 * (k / 2)) (fun p hp => by
      obtain ⟨_, h2⟩ := arcs_mem.1 hp
      show 2 * (p.1 / 2) = 2 * (p.2 / 2)
      rw [h2, mate_half]) hh
  · have hxy : x / 2 = y / 2 := by
      have hh : 2 * (x / 2) = 2 * (y / 2) := hh
      omega
    have : y = x ∨ y = mate x := by unfold mate; split <;> omega
    rcases this with rfl | rfl
    · rfl
    · exact arcs_same hx
theorem num_id (n : Nat) : num n (mergeAll (arcs (fun k => k) n)) = n := by
  have : ∀ k, mergeAll (arcs (fun k => k) n) k = k := fun k => by
    unfold mergeAll arcs
    have key : ∀ (l : List Nat) (c : Nat → Nat), (l.map fun k => (k, k)).foldl merge c = c := by
      intro l
      induction l with
      | nil => intro c; rfl
      | cons x l ih =>
        intro c
        rw [List.map_cons, List.foldl_cons, ih]
        funext y; unfold merge; split <;> simp_all
    rw [key]; rfl
  unfold num tally
  rw [List.filter_eq_self.2 (fun x _ => by simp [this x]), List.length_range]
/-- Euler: the number is even, and at most twice the parts. -/
theorem euler {f : Nat → Nat} {n : Nat} (h : Per f n) (hn : n % 2 = 0) : vN f n + fN f n ≤ 2 * cN f n + n / 2 ∧ (vN f n + fN f n + n / 2) % 2 = 0 := by
  generalize hm : n - vN f n = m
  induction m using Nat.strongRecOn generalizing f with
  | ind m ih =>
    by_cases hid : ∀ d, d < n → f d = d
    · have e1 : arcs f n = arcs (fun k => k) n := arcs_congr fun d hd => hid d hd
      have e2 : arcs (fun k => f (mate k)) n = arcs mate n := arcs_congr fun d hd => hid _ (mate_lt hn hd)
      have v : vN f n = n := by unfold vN cnum; rw [e1, num_id]
      have fa : fN f n = n / 2 := by unfold fN cnum; rw [e2]; exact cnum_mate hn
      have c : cN f n = n / 2 := by
        rw [← cnum_mate hn]
        unfold cN cnum
        refine num_iff (tied_in h hn) (arcs_in (per_mate hn)) (fun p hp => ?_) (fun p hp => ?_)
        · obtain ⟨h1, h2 | h2⟩ := tied_mem.1 hp
          · rw [h2, hid _ h1]
          · rw [h2]; exact arcs_same h1
        · obtain ⟨h1, h2⟩ := arcs_mem.1 hp
          rw [h2]; exact tied_mate h1
      omega
    · obtain ⟨a, ha, hne⟩ : ∃ a, a < n ∧ f a ≠ a := by
        apply Classical.byContradiction
        intro hh
        exact hid fun d hd => Classical.byContradiction fun hne => hh ⟨d, hd, hne⟩
      obtain ⟨b, hb, hfb⟩ := h.pre ha
      have hba : b ≠ a := fun e => hne (by rw [← e]; rw [hfb]; exact e.symm)
      have hg := h.swp ha hb
      have hga : swp f a b a = a := by rw [swp_l, hfb]
      have hc := insert_cases hg hn ha hb hga hba
      rw [swp_swp] at hc
      have hle := cnum_le (swp f a b) n
      have := ih (n - vN (swp f a b) n) (by unfold vN at *; omega) hg rfl
      rcases hc with ⟨hv, ⟨_, h1, ⟨h2, _⟩ | h2⟩ | ⟨_, h1, h2⟩⟩ <;> omega
end Mp
end Go.Proofs.Ytodgongemoabiaa
