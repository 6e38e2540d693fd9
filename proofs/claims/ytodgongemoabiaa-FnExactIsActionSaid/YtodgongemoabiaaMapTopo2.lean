/-
  The genus of maps: of the dual and of the mirror image; an edge that is left out; an edge with a vertex on it.
-/
import Derived.Test.YtodgongemoabiaaBase
import Derived.Test.YtodgongemoabiaaClass
import Derived.Test.YtodgongemoabiaaTri
import Derived.Test.YtodgongemoabiaaTopo
import Derived.Test.YtodgongemoabiaaMap
import Derived.Test.YtodgongemoabiaaMapTopo
namespace Go.Proofs.Ytodgongemoabiaa

namespace Mp
open Cls
def gen (f : Nat → Nat) (n : Nat) : Int := (cN f n : Int) - ((vN f n : Int) - ((n / 2 : Nat) : Int) + (fN f n : Int)).tdiv 2
/-- Half of an even number. -/
theorem tdiv_even {x k : Int} (h : x = 2 * k) : x.tdiv 2 = k := by rw [h, Int.mul_tdiv_cancel_left _ (by decide)]
theorem gen_half {f : Nat → Nat} {n : Nat} (h : Per f n) (hn : n % 2 = 0) : ∃ k : Int, (vN f n : Int) - ((n / 2 : Nat) : Int) + (fN f n : Int) = 2 * k ∧ gen f n = (cN f n : Int) - k := by
  have he := (euler h hn).2
  obtain ⟨k, hk⟩ : ∃ k : Int, (vN f n : Int) - ((n / 2 : Nat) : Int) + (fN f n : Int) = 2 * k := ⟨((vN f n : Int) - ((n / 2 : Nat) : Int) + (fN f n : Int)) / 2, by omega⟩
  exact ⟨k, hk, by unfold gen; rw [tdiv_even hk]⟩
theorem gen_nonneg {f : Nat → Nat} {n : Nat} (h : Per f n) (hn : n % 2 = 0) : 0 ≤ gen f n := by
  obtain ⟨k, hk, hg⟩ := gen_half h hn
  have := (euler h hn).1
  omega
theorem gen_insert {f : Nat → Nat} {n a b : Nat} (h : Per f n) (hn : n % 2 = 0) (ha : a < n) (hb : b < n) (hf : f a = a) (hab : b ≠ a) : gen f n ≤ gen (swp f a b) n := by
  obtain ⟨k, hk, hg⟩ := gen_half h hn
  obtain ⟨k', hk', hg'⟩ := gen_half (h.swp ha hb) hn
  obtain ⟨hv, hc⟩ := insert_cases h hn ha hb hf hab
  rcases hc with ⟨_, h1, ⟨h2, _⟩ | h2⟩ | ⟨_, h1, h2⟩ <;> omega
/-- The dart a is taken out: it is alone at its vertex then. -/
theorem gen_takeOut {f : Nat → Nat} {n a b : Nat} (h : Per f n) (hn : n % 2 = 0) (ha : a < n) (hb : b < n) (hf : f b = a) : gen (swp f a b) n ≤ gen f n := by
  by_cases hab : b = a
  · subst hab
    have : swp f b b = f := by funext k; unfold swp; split <;> simp_all
    rw [this]; exact Int.le_refl _
  · have := gen_insert (h.swp ha hb) hn ha hb (by rw [swp_l, hf]) hab
    rwa [swp_swp] at this

/-- How many classes there are does not turn on the order. -/
theorem num_relabel {N : Nat} {c d g : Nat → Nat} (hc : Ok c N) (hd : Ok d N) (hg : Per g N) (h : ∀ x, x < N → ∀ y, y < N → (c x = c y ↔ d (g x) = d (g y))) : num N c = num N d := by
  rw [num_found hc, num_found hd]
  rw [found_ker (g := fun x => d (g x)) fun i hi j hj => h i (List.mem_range.1 hi) j (List.mem_range.1 hj)]
  rw [← found_map]
  refine found_same fun x => ?_
  constructor
  · rintro ⟨m, hm, e⟩; exact ⟨m, hg.perm.mem_iff.1 hm, e⟩
  · rintro ⟨m, hm, e⟩; exact ⟨m, hg.perm.mem_iff.2 hm, e⟩
theorem cN_dual {f : Nat → Nat} {n : Nat} (h : Per f n) (hn : n % 2 = 0) : cN (fun k => f (mate k)) n = cN f n := by
  have hfc := h.comp (per_mate hn)
  unfold cN
  refine num_iff (tied_in hfc hn) (tied_in h hn) (fun p hp => ?_) (fun p hp => ?_)
  · obtain ⟨h1, h2 | h2⟩ := tied_mem.1 hp
    · rw [h2]; exact (tied_mate h1).trans (tied_arc (mate_lt hn h1))
    · rw [h2]; exact tied_mate h1
  · obtain ⟨h1, h2 | h2⟩ := tied_mem.1 hp
    · rw [h2]
      have := tied_arc (f := fun k => f (mate k)) (mate_lt hn h1)
      rw [mate_mate] at this
      exact (tied_mate h1).trans this
    · rw [h2]; exact tied_mate h1
theorem fN_dual {f : Nat → Nat} {n : Nat} : fN (fun k => f (mate k)) n = vN f n := by
  unfold fN vN; simp only [mate_mate]
theorem gen_dual {f : Nat → Nat} {n : Nat} (h : Per f n) (hn : n % 2 = 0) : gen (fun k => f (mate k)) n = gen f n := by
  unfold gen
  rw [cN_dual h hn, fN_dual, show vN (fun k => f (mate k)) n = fN f n from rfl]
  congr 2; omega
/-- The inverse. -/
theorem cnum_inv {f g : Nat → Nat} {n : Nat} (hf : Per f n) (hg : Per g n) (h : ∀ d, d < n → g (f d) = d) : cnum g n = cnum f n := by
  have h' : ∀ d, d < n → f (g d) = d := fun d hd => by
    obtain ⟨e, he, rfl⟩ := hf.pre hd
    rw [h e he]
  unfold cnum
  refine num_iff (arcs_in hg) (arcs_in hf) (fun p hp => ?_) (fun p hp => ?_)
  · obtain ⟨h1, h2⟩ := arcs_mem.1 hp
    rw [h2]
    have := arcs_same (f := f) (hg.lt _ h1)
    rw [h' _ h1] at this; exact this.symm
  · obtain ⟨h1, h2⟩ := arcs_mem.1 hp
    rw [h2]
    have := arcs_same (f := g) (hf.lt _ h1)
    rw [h _ h1] at this; exact this.symm
theorem gen_mirror {f g : Nat → Nat} {n : Nat} (hf : Per f n) (hg : Per g n) (hn : n % 2 = 0) (h : ∀ d, d < n → g (f d) = d) : gen g n = gen f n := by
  have h' : ∀ d, d < n → f (g d) = d := fun d hd => by
    obtain ⟨e, he, rfl⟩ := hf.pre hd
    rw [h e he]
  have hm := per_mate hn
  have hv : vN g n = vN f n := cnum_inv hf hg h
  have hc : cN g n = cN f n := by
    unfold cN
    refine num_iff (tied_in hg hn) (tied_in hf hn) (fun p hp => ?_) (fun p hp => ?_)
    · obtain ⟨h1, h2 | h2⟩ := tied_mem.1 hp
      · rw [h2]
        have := tied_arc (f := f) (hg.lt _ h1)
        rw [h' _ h1] at this; exact this.symm
      · rw [h2]; exact tied_mate h1
    · obtain ⟨h1, h2 | h2⟩ := tied_mem.1 hp
      · rw [h2]
        have := tied_arc (f := g) (hf.lt _ h1)
        rw [h _ h1] at this; exact this.symm
      · rw [h2]; exact tied_mate h1
  have hF : fN g n = fN f n := by
    -- the inverse of f after mate is mate after g, which mate leads to g after mate
    have h1 : cnum (fun k => mate (g k)) n = cnum (fun k => f (mate k)) n := cnum_inv (hf.comp hm) (hm.comp hg) fun d hd => by
      show mate (g (f (mate d))) = d
      rw [h _ (mate_lt hn hd), mate_mate]
    unfold fN
    rw [← h1]
    unfold cnum
    refine num_relabel (Ok.all (arcs_in (hg.comp hm))) (Ok.all (arcs_in (hm.comp hg))) hm fun x hx y hy => ⟨fun e => ?_, fun e => ?_⟩
    · exact ker_le (F := fun k => mergeAll (arcs (fun k => mate (g k)) n) (mate k)) (fun p hp => by
        obtain ⟨h2, h3⟩ := arcs_mem.1 hp
        show mergeAll _ (mate p.1) = mergeAll _ (mate p.2)
        rw [h3]
        exact arcs_same (f := fun k => mate (g k)) (mate_lt hn h2)) e
    · have := ker_le (F := fun k => mergeAll (arcs (fun k => g (mate k)) n) (mate k)) (fun p hp => by
        obtain ⟨h2, h3⟩ := arcs_mem.1 hp
        show mergeAll _ (mate p.1) = mergeAll _ (mate p.2)
        rw [h3]
        have := arcs_same (f := fun k => g (mate k)) (mate_lt hn h2)
        rw [mate_mate] at this ⊢; exact this) e
      simpa [mate_mate] using this
  unfold gen
  rw [hv, hc, hF]

/-- The darts a and a + 1 are left out of n + 2. -/
def up2 (a x : Nat) : Nat := if x < a then x else x + 2
def dn2 (a x : Nat) : Nat := if x < a then x else x - 2
theorem dn_up (a x : Nat) : dn2 a (up2 a x) = x := by
  unfold dn2 up2
  by_cases h : x < a
  · rw [if_pos h, if_pos h]
  · rw [if_neg h, if_neg (by omega)]; omega
theorem up_dn {a x : Nat} (h1 : x ≠ a) (h2 : x ≠ a + 1) : up2 a (dn2 a x) = x := by
  unfold dn2 up2
  by_cases h : x < a
  · rw [if_pos h, if_pos h]
  · rw [if_neg h, if_neg (by omega)]; omega
theorem up_lt {a x n : Nat} (h : x < n) (ha : a ≤ n) : up2 a x < n + 2 := by unfold up2; split <;> omega
theorem up_ne {a x : Nat} : up2 a x ≠ a ∧ up2 a x ≠ a + 1 := by unfold up2; split <;> omega
theorem up_inj {a x y : Nat} (h : up2 a x = up2 a y) : x = y := by have := congrArg (dn2 a) h; rwa [dn_up, dn_up] at this
theorem up_mate {a x : Nat} (ha : a % 2 = 0) : up2 a (mate x) = mate (up2 a x) := by
  unfold up2
  by_cases h : x < a
  · rw [if_pos h, if_pos (mate_lt ha h)]
  · have h2 : ¬ mate x < a := by unfold mate; split <;> omega
    rw [if_neg h, if_neg h2]; unfold mate; by_cases h3 : x % 2 = 0
    · rw [if_pos h3, if_pos (by omega)]
    · rw [if_neg h3, if_neg (by omega)]; omega
theorem split2 {n a : Nat} (ha : a ≤ n) {x : Nat} (hx : x < n + 2) : x = a ∨ x = a + 1 ∨ ∃ y, y < n ∧ up2 a y = x := by
  by_cases h1 : x = a
  · exact Or.inl h1
  · by_cases h2 : x = a + 1
    · exact Or.inr (Or.inl h2)
    · exact Or.inr (Or.inr ⟨dn2 a x, by unfold dn2; split <;> omega, up_dn h1 h2⟩)
/-- Classes of n + 2 numbers, of which a and a + 1 hang together with no other. -/
theorem num_emb {n a : Nat} {es es' : List (Nat × Nat)} (ha : a ≤ n) (hI : In (n + 2) es) (hI' : In n es')
    (h1 : ∀ p ∈ es', mergeAll es (up2 a p.1) = mergeAll es (up2 a p.2))
    (h2 : ∀ p ∈ es, (p.1 = a ∨ p.1 = a + 1) ∧ (p.2 = a ∨ p.2 = a + 1) ∨ (p.1 ≠ a ∧ p.1 ≠ a + 1 ∧ p.2 ≠ a ∧ p.2 ≠ a + 1 ∧ mergeAll es' (dn2 a p.1) = mergeAll es' (dn2 a p.2))) :
    num (n + 2) (mergeAll es) = num n (mergeAll es') + (if mergeAll es a = mergeAll es (a + 1) then 1 else 2) := by
  have hof := Ok.all hI
  have hof' := Ok.all hI'
  -- the two classes keep to themselves
  have hown : ∀ x y, mergeAll es x = mergeAll es y → ((x = a ∨ x = a + 1) ↔ (y = a ∨ y = a + 1)) := fun x y e => by
    have := ker_le (F := fun k => decide (k = a ∨ k = a + 1)) (fun p hp => by
      show decide (p.1 = a ∨ p.1 = a + 1) = decide (p.2 = a ∨ p.2 = a + 1)
      rcases h2 p hp with ⟨h3, h4⟩ | ⟨h3, h4, h5, h6, _⟩
      · rw [decide_eq_true h3, decide_eq_true h4]
      · rw [decide_eq_false (fun h => h.elim h3 h4), decide_eq_false (fun h => h.elim h5 h6)]) e
    simpa only [decide_eq_decide] using this
  have hk : ∀ x, x < n → ∀ y, y < n → (mergeAll es (up2 a x) = mergeAll es (up2 a y) ↔ mergeAll es' x = mergeAll es' y) := fun x hx y hy => ⟨fun e => by
    have := ker_le (F := fun k => if k = a ∨ k = a + 1 then n else mergeAll es' (dn2 a k)) (fun p hp => by
      show (if p.1 = a ∨ p.1 = a + 1 then n else mergeAll es' (dn2 a p.1)) = (if p.2 = a ∨ p.2 = a + 1 then n else mergeAll es' (dn2 a p.2))
      rcases h2 p hp with ⟨h3, h4⟩ | ⟨h3, h4, h5, h6, h7⟩
      · rw [if_pos h3, if_pos h4]
      · rw [if_neg (fun h => h.elim h3 h4), if_neg (fun h => h.elim h5 h6), h7]) e
    have ex := up_ne (a := a) (x := x)
    have ey := up_ne (a := a) (x := y)
    simpa [ex, ey, dn_up] using this, fun e => ker_le (F := fun k => mergeAll es (up2 a k)) h1 e⟩
  rw [num_found hof, num_found hof']
  rw [found_same (c := mergeAll es) (d := mergeAll es) (ms := List.range (n + 2)) (ns := (List.range n).map (up2 a) ++ [a] ++ [a + 1]) fun x => by
    constructor
    · rintro ⟨m, hm, e⟩
      rcases split2 ha (List.mem_range.1 hm) with rfl | rfl | ⟨y, hy, rfl⟩
      · exact ⟨m, by simp, e⟩
      · exact ⟨a + 1, by simp, e⟩
      · exact ⟨_, List.mem_append.2 (Or.inl (List.mem_append.2 (Or.inl (List.mem_map.2 ⟨y, List.mem_range.2 hy, rfl⟩)))), e⟩
    · rintro ⟨m, hm, e⟩
      refine ⟨m, List.mem_range.2 ?_, e⟩
      simp only [List.mem_append, List.mem_map, List.mem_range, List.mem_singleton] at hm
      rcases hm with (⟨y, hy, rfl⟩ | rfl) | rfl
      · exact up_lt hy ha
      · omega
      · omega]
  have e0 : (found (mergeAll es) ((List.range n).map (up2 a))).length = (found (mergeAll es') (List.range n)).length := by
    rw [found_map]
    exact found_ker fun i hi j hj => hk i (List.mem_range.1 hi) j (List.mem_range.1 hj)
  have m0 : ∀ z, (z = a ∨ z = a + 1) → mergeAll es z ∉ found (mergeAll es) ((List.range n).map (up2 a)) := fun z hz hm => by
    obtain ⟨m, hm, e⟩ := (found_mem _ _ _).1 hm
    obtain ⟨y, _, rfl⟩ := List.mem_map.1 hm
    have ey := up_ne (a := a) (x := y)
    exact (fun h => h.elim ey.1 ey.2) ((hown _ _ e).2 hz)
  have e1 : found (mergeAll es) ((List.range n).map (up2 a) ++ [a]) = found (mergeAll es) ((List.range n).map (up2 a)) ++ [mergeAll es a] := by
    rw [found_snoc]; unfold foundStep; rw [if_neg (m0 a (Or.inl rfl))]
  by_cases hs : mergeAll es a = mergeAll es (a + 1)
  · rw [if_pos hs, found_snoc]; unfold foundStep
    rw [if_pos (by rw [e1]; simp [hs]), e1, List.length_append, e0]; rfl
  · rw [if_neg hs, found_snoc]; unfold foundStep
    rw [if_neg (by
      rw [e1, List.mem_append, List.mem_singleton]
      rintro (h | h)
      · exact m0 (a + 1) (Or.inr rfl) h
      · exact hs h.symm), e1, List.length_append, List.length_append, e0]; rfl

/-- g has the darts a and a + 1 more than f, which are alone. -/
structure Emb (f g : Nat → Nat) (n a : Nat) : Prop where
  le : a ≤ n
  even : a % 2 = 0
  nev : n % 2 = 0
  perf : Per f n
  l : g a = a
  r : g (a + 1) = a + 1
  up : ∀ x, x < n → g (up2 a x) = up2 a (f x)
section
variable {f g : Nat → Nat} {n a : Nat}
theorem Emb.per (h : Emb f g n a) : Per g (n + 2) := by
  have hle := h.le
  refine ⟨fun d hd => ?_, fun d e hd he hh => ?_⟩
  · rcases split2 h.le hd with rfl | rfl | ⟨y, hy, rfl⟩
    · rw [h.l]; exact hd
    · rw [h.r]; exact hd
    · rw [h.up y hy]; exact up_lt (h.perf.lt y hy) h.le
  · rcases split2 h.le hd with rfl | rfl | ⟨y, hy, rfl⟩
    · rcases split2 h.le he with rfl | rfl | ⟨z, hz, rfl⟩
      · rfl
      · rw [h.l, h.r] at hh; omega
      · rw [h.l, h.up z hz] at hh; exact absurd hh.symm up_ne.1
    · rcases split2 h.le he with rfl | rfl | ⟨z, hz, rfl⟩
      · rw [h.l, h.r] at hh; omega
      · rfl
      · rw [h.r, h.up z hz] at hh; exact absurd hh.symm up_ne.2
    · rcases split2 h.le he with rfl | rfl | ⟨z, hz, rfl⟩
      · rw [h.l, h.up y hy] at hh; exact absurd hh up_ne.1
      · rw [h.r, h.up y hy] at hh; exact absurd hh up_ne.2
      · rw [h.up y hy, h.up z hz] at hh
        rw [h.perf.inj y z hy hz (up_inj hh)]
theorem emb_mate {a : Nat} (ha : a % 2 = 0) : mate a = a + 1 ∧ mate (a + 1) = a := by unfold mate; constructor <;> split <;> omega
/-- An arc of g is one of f, or leads from a or a + 1. -/
theorem Emb.arc (h : Emb f g n a) {k : Nat} (hk : k < n + 2) : (k = a ∧ g k = a) ∨ (k = a + 1 ∧ g k = a + 1) ∨ (k ≠ a ∧ k ≠ a + 1 ∧ g k ≠ a ∧ g k ≠ a + 1 ∧ dn2 a k < n ∧ dn2 a (g k) = f (dn2 a k)) := by
  rcases split2 h.le hk with rfl | rfl | ⟨y, hy, rfl⟩
  · exact Or.inl ⟨rfl, h.l⟩
  · exact Or.inr (Or.inl ⟨rfl, h.r⟩)
  · refine Or.inr (Or.inr ⟨up_ne.1, up_ne.2, ?_, ?_, by rw [dn_up]; exact hy, by rw [h.up y hy, dn_up, dn_up]⟩)
    · rw [h.up y hy]; exact up_ne.1
    · rw [h.up y hy]; exact up_ne.2
theorem Emb.mate_arc (h : Emb f g n a) {k : Nat} (hk : k < n + 2) : (k = a ∧ mate k = a + 1) ∨ (k = a + 1 ∧ mate k = a) ∨ (k ≠ a ∧ k ≠ a + 1 ∧ mate k ≠ a ∧ mate k ≠ a + 1 ∧ dn2 a k < n ∧ dn2 a (mate k) = mate (dn2 a k)) := by
  have hm := emb_mate h.even
  rcases split2 h.le hk with rfl | rfl | ⟨y, hy, rfl⟩
  · exact Or.inl ⟨rfl, hm.1⟩
  · exact Or.inr (Or.inl ⟨rfl, hm.2⟩)
  · refine Or.inr (Or.inr ⟨up_ne.1, up_ne.2, ?_, ?_, by rw [dn_up]; exact hy, by rw [← up_mate h.even, dn_up, dn_up]⟩)
    · rw [← up_mate h.even]; exact up_ne.1
    · rw [← up_mate h.even]; exact up_ne.2
theorem Emb.vN (h : Emb f g n a) : vN g (n + 2) = vN f n + 2 := by
  unfold Mp.vN cnum
  rw [num_emb h.le (arcs_in h.per) (arcs_in h.perf) (fun p hp => ?_) (fun p hp => ?_), if_neg (fix_apart h.per (by have := h.le; omega) h.l (by omega))]
  · obtain ⟨h1, h2⟩ := arcs_mem.1 hp
    rw [h2, ← h.up _ h1]
    exact arcs_same (up_lt h1 h.le)
  · obtain ⟨h1, h2⟩ := arcs_mem.1 hp
    rw [h2]
    rcases h.arc h1 with ⟨e1, e2⟩ | ⟨e1, e2⟩ | ⟨e1, e2, e3, e4, e5, e6⟩
    · exact Or.inl ⟨Or.inl e1, Or.inl e2⟩
    · exact Or.inl ⟨Or.inr e1, Or.inr e2⟩
    · exact Or.inr ⟨e1, e2, e3, e4, by rw [e6]; exact arcs_same e5⟩
theorem Emb.fN (h : Emb f g n a) : fN g (n + 2) = fN f n + 1 := by
  have hn2 : (n + 2) % 2 = 0 := by have := h.nev; omega
  have hm := emb_mate h.even
  have ha2 : a < n + 2 := by have := h.le; omega
  unfold Mp.fN cnum
  rw [num_emb h.le (arcs_in (h.per.comp (per_mate hn2))) (arcs_in (h.perf.comp (per_mate h.nev))) (fun p hp => ?_) (fun p hp => ?_), if_pos]
  · have := arcs_same (f := fun k => g (mate k)) ha2
    rw [hm.1, h.r] at this; exact this
  · obtain ⟨h1, h2⟩ := arcs_mem.1 hp
    rw [h2, ← h.up _ (mate_lt h.nev h1), up_mate h.even]
    exact arcs_same (f := fun k => g (mate k)) (up_lt h1 h.le)
  · obtain ⟨h1, h2⟩ := arcs_mem.1 hp
    rw [h2]
    rcases h.mate_arc h1 with ⟨e1, e2⟩ | ⟨e1, e2⟩ | ⟨e1, e2, e3, e4, e5, e6⟩
    · exact Or.inl ⟨Or.inl e1, Or.inr (by rw [e2, h.r])⟩
    · exact Or.inl ⟨Or.inr e1, Or.inl (by rw [e2, h.l])⟩
    · rcases h.arc (mate_lt hn2 h1) with ⟨d1, _⟩ | ⟨d1, _⟩ | ⟨_, _, d3, d4, _, d6⟩
      · exact absurd d1 e3
      · exact absurd d1 e4
      · exact Or.inr ⟨e1, e2, d3, d4, by rw [d6, e6]; exact arcs_same (f := fun k => f (mate k)) e5⟩
theorem Emb.cN (h : Emb f g n a) : cN g (n + 2) = cN f n + 1 := by
  have hn2 : (n + 2) % 2 = 0 := by have := h.nev; omega
  have hm := emb_mate h.even
  have ha2 : a < n + 2 := by have := h.le; omega
  unfold Mp.cN
  rw [num_emb h.le (tied_in h.per hn2) (tied_in h.perf h.nev) (fun p hp => ?_) (fun p hp => ?_), if_pos]
  · have := tied_mate (f := g) ha2
    rwa [hm.1] at this
  · obtain ⟨h1, h2 | h2⟩ := tied_mem.1 hp
    · rw [h2, ← h.up _ h1]; exact tied_arc (up_lt h1 h.le)
    · rw [h2, up_mate h.even]; exact tied_mate (up_lt h1 h.le)
  · obtain ⟨h1, h2 | h2⟩ := tied_mem.1 hp
    · rw [h2]
      rcases h.arc h1 with ⟨e1, e2⟩ | ⟨e1, e2⟩ | ⟨e1, e2, e3, e4, e5, e6⟩
      · exact Or.inl ⟨Or.inl e1, Or.inl e2⟩
      · exact Or.inl ⟨Or.inr e1, Or.inr e2⟩
      · exact Or.inr ⟨e1, e2, e3, e4, by rw [e6]; exact tied_arc e5⟩
    · rw [h2]
      rcases h.mate_arc h1 with ⟨e1, e2⟩ | ⟨e1, e2⟩ | ⟨e1, e2, e3, e4, e5, e6⟩
      · exact Or.inl ⟨Or.inl e1, Or.inr e2⟩
      · exact Or.inl ⟨Or.inr e1, Or.inl e2⟩
      · exact Or.inr ⟨e1, e2, e3, e4, by rw [e6]; exact tied_mate e5⟩
theorem Emb.gen (h : Emb f g n a) : gen g (n + 2) = gen f n := by
  have hn2 : (n + 2) % 2 = 0 := by have := h.nev; omega
  obtain ⟨k, hk, hg⟩ := gen_half h.perf h.nev
  obtain ⟨k', hk', hg'⟩ := gen_half h.per hn2
  rw [h.vN, h.fN] at hk'
  rw [h.cN] at hg'
  have := h.nev
  omega
end
end Mp
end Go.Proofs.Ytodgongemoabiaa
