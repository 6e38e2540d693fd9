/-
  An edge with a vertex of two darts on it: the genus stays, and there is one vertex more.
-/
import Derived.Test.YtjpafacldcnboaaBase
import Derived.Test.YtjpafacldcnboaaClass
import Derived.Test.YtjpafacldcnboaaTri
import Derived.Test.YtjpafacldcnboaaTopo
import Derived.Test.YtjpafacldcnboaaMap
import Derived.Test.YtjpafacldcnboaaMapTopo
import Derived.Test.YtjpafacldcnboaaMapTopo2
import Derived.Test.YtjpafacldcnboaaMapTopo3
namespace Go.Proofs.Ytjpafacldcnboaa

namespace Mp
open Cls
def ext (f : Nat → Nat) (n : Nat) : Nat → Nat := fun k => if k < n then f k else k
theorem ext_emb {f : Nat → Nat} {n : Nat} (h : Per f n) (hn : n % 2 = 0) : Emb f (ext f n) n n := by
  refine ⟨Nat.le_refl _, hn, hn, h, by simp [ext], by unfold ext; rw [if_neg (by omega)], fun x hx => ?_⟩
  have := h.lt x hx
  have e : ∀ y, y < n → up2 n y = y := fun y hy => by unfold up2; rw [if_pos hy]
  rw [e x hx, e _ this]; simp [ext, hx]
theorem sub_steps {f : Nat → Nat} {n d : Nat} (h : Per f n) (hn : n % 2 = 0) (hd : d < n) : ∃ g, Per g (n + 2) ∧ vN g (n + 2) = vN f n + 1 ∧ gen g (n + 2) = gen f n ∧
    ∀ k, k < n + 2 → g k = (if k = d then n else if k = n then d else if k = n + 1 then (if f d = d then n + 1 else f d) else if f k = d then n + 1 else f k) := by
  have hE := ext_emb h hn
  have hn2 : (n + 2) % 2 = 0 := by omega
  have hm := emb_mate hn
  have p0 := hE.per
  generalize hg0 : ext f n = g0 at *
  have v0n : g0 n = n := by rw [← hg0]; simp [ext]
  have v0n1 : g0 (n + 1) = n + 1 := by rw [← hg0]; unfold ext; rw [if_neg (by omega)]
  have v0 : ∀ k, k < n → g0 k = f k := fun k hk => by rw [← hg0]; simp [ext, hk]
  -- n + 1 is laid behind d
  have c1 := insert_cases p0 hn2 (show n + 1 < n + 2 by omega) (show d < n + 2 by omega) v0n1 (by omega)
  have apart : mergeAll (tied g0 (n + 2)) (n + 1) ≠ mergeAll (tied g0 (n + 2)) d := fun e => by
    have := ker_le (F := fun k => decide (k < n)) (fun p hp => by
      obtain ⟨h1, h2⟩ := tied_mem.1 hp
      show decide (p.1 < n) = decide (p.2 < n)
      rcases Nat.lt_or_ge p.1 n with h3 | h3
      · have h4 : p.2 < n := by
          rcases h2 with h2 | h2
          · rw [h2, v0 _ h3]; exact h.lt _ h3
          · rw [h2]; exact mate_lt hn h3
        rw [decide_eq_true h3, decide_eq_true h4]
      · have h4 : ¬ p.2 < n := by
          have : p.1 = n ∨ p.1 = n + 1 := by omega
          rcases this with h5 | h5 <;> rcases h2 with h2 | h2 <;> rw [h2, h5]
          · rw [v0n]; omega
          · rw [hm.1]; omega
          · rw [v0n1]; omega
          · rw [hm.2]; omega
        rw [decide_eq_false (by omega), decide_eq_false h4]) e
    have this : decide (n + 1 < n) = decide (d < n) := this
    rw [decide_eq_true hd, decide_eq_false (by omega)] at this
    cases this
  obtain ⟨hv1, ⟨hsame, _⟩ | ⟨_, hc1, hf1⟩⟩ := c1
  · exact absurd hsame apart
  have p1 := p0.swp (show n + 1 < n + 2 by omega) (show d < n + 2 by omega)
  generalize hg1 : swp g0 (n + 1) d = g1 at *
  have v1n1 : g1 (n + 1) = f d := by rw [← hg1, swp_l, v0 d hd]
  have v1d : g1 d = n + 1 := by rw [← hg1, swp_r, v0n1]
  have v1n : g1 n = n := by rw [← hg1, swp_o (by omega) (by omega), v0n]
  have v1 : ∀ k, k < n → k ≠ d → g1 k = f k := fun k hk hkd => by rw [← hg1, swp_o (by omega) hkd, v0 k hk]
  -- n is laid behind d
  have c2 := insert_cases p1 hn2 (show n < n + 2 by omega) (show d < n + 2 by omega) v1n (by omega)
  have t1 : mergeAll (tied g1 (n + 2)) n = mergeAll (tied g1 (n + 2)) d := by
    have e1 := tied_mate (f := g1) (show n < n + 2 by omega)
    have e2 := tied_arc (f := g1) (show d < n + 2 by omega)
    rw [hm.1] at e1; rw [v1d] at e2
    exact e1.trans e2.symm
  have t2 : mergeAll (arcs (fun k => g1 (mate k)) (n + 2)) (mate n) = mergeAll (arcs (fun k => g1 (mate k)) (n + 2)) (mate d) := by
    have e2 := arcs_same (f := fun k => g1 (mate k)) (mate_lt hn2 (show d < n + 2 by omega))
    rw [mate_mate, v1d] at e2
    rw [hm.1]; exact e2.symm
  have p2 := p1.swp (show n < n + 2 by omega) (show d < n + 2 by omega)
  have hf2 : fN (swp g1 n d) (n + 2) = fN g1 (n + 2) + 1 := by
    unfold fN
    rw [face_swp]
    exact swp_same (p1.comp (per_mate hn2)) (mate_lt hn2 (by omega)) (mate_lt hn2 (by omega)) (fun e => by have := mate_inj e; omega) t2
  obtain ⟨hv2, ⟨_, hc2, _⟩ | ⟨hno, _⟩⟩ := c2
  rotate_left
  · exact absurd t1 hno
  generalize hg2 : swp g1 n d = g2 at *
  have v2n : g2 n = n + 1 := by rw [← hg2, swp_l, v1d]
  have v2d : g2 d = n := by rw [← hg2, swp_r, v1n]
  have v2n1 : g2 (n + 1) = f d := by rw [← hg2, swp_o (by omega) (by omega), v1n1]
  have v2 : ∀ k, k < n → k ≠ d → g2 k = f k := fun k hk hkd => by rw [← hg2, swp_o (by omega) hkd, v1 k hk hkd]
  -- what leads to d
  obtain ⟨p, hp, hpd⟩ := p2.pre (show d < n + 2 by omega)
  have hpn : p ≠ n := fun e => by rw [e, v2n] at hpd; omega
  have hpd' : p ≠ d := fun e => by rw [e, v2d] at hpd; omega
  have t3 : mergeAll (arcs g2 (n + 2)) p = mergeAll (arcs g2 (n + 2)) n := by
    have e1 := arcs_same (f := g2) hp
    have e2 := arcs_same (f := g2) (show d < n + 2 by omega)
    rw [hpd] at e1; rw [v2d] at e2
    exact e1.trans e2
  have hv3 : vN (swp g2 p n) (n + 2) = vN g2 (n + 2) + 1 := swp_same p2 hp (by omega) hpn t3
  have hf3 : fN (swp g2 p n) (n + 2) + 1 = fN g2 (n + 2) := by
    unfold fN
    rw [face_swp]
    refine swp_diff (p2.comp (per_mate hn2)) (mate_lt hn2 hp) (mate_lt hn2 (by omega)) ?_
    rw [hm.1]
    refine fun e => fix_apart (f := fun k => g2 (mate k)) (p2.comp (per_mate hn2)) (show n + 1 < n + 2 by omega) (by show g2 (mate (n + 1)) = n + 1; rw [hm.2, v2n]) (b := mate p) ?_ e.symm
    intro hh
    have := congrArg mate hh
    rw [mate_mate, hm.2] at this
    exact hpn this
  have p3 := p2.swp hp (show n < n + 2 by omega)
  have hc3 : cN (swp g2 p n) (n + 2) = cN g2 (n + 2) := by
    unfold cN
    have b1 : mergeAll (tied g2 (n + 2)) p = mergeAll (tied g2 (n + 2)) d := by have := tied_arc (f := g2) hp; rwa [hpd] at this
    have b2 : mergeAll (tied g2 (n + 2)) d = mergeAll (tied g2 (n + 2)) n := by have := tied_arc (f := g2) (show d < n + 2 by omega); rwa [v2d] at this
    have b3 : mergeAll (tied g2 (n + 2)) n = mergeAll (tied g2 (n + 2)) (n + 1) := by have := tied_arc (f := g2) (show n < n + 2 by omega); rwa [v2n] at this
    have a1 : mergeAll (tied (swp g2 p n) (n + 2)) p = mergeAll (tied (swp g2 p n) (n + 2)) (n + 1) := by have := tied_arc (f := swp g2 p n) hp; rwa [swp_l, v2n] at this
    have a2 : mergeAll (tied (swp g2 p n) (n + 2)) n = mergeAll (tied (swp g2 p n) (n + 2)) d := by have := tied_arc (f := swp g2 p n) (show n < n + 2 by omega); rwa [swp_r, hpd] at this
    have a3 : mergeAll (tied (swp g2 p n) (n + 2)) n = mergeAll (tied (swp g2 p n) (n + 2)) (n + 1) := by have := tied_mate (f := swp g2 p n) (show n < n + 2 by omega); rwa [hm.1] at this
    refine num_iff (tied_in p3 hn2) (tied_in p2 hn2) (fun q hq => ?_) (fun q hq => ?_)
    · obtain ⟨k, y⟩ := q
      obtain ⟨h1, h2⟩ := tied_mem.1 hq
      simp only at h1 h2 ⊢
      rcases h2 with rfl | rfl
      · by_cases k1 : k = p
        · rw [k1, swp_l, v2n, b1, b2, b3]
        · by_cases k2 : k = n
          · rw [k2, swp_r, hpd, b2]
          · rw [swp_o k1 k2]; exact tied_arc h1
      · exact tied_mate h1
    · obtain ⟨k, y⟩ := q
      obtain ⟨h1, h2⟩ := tied_mem.1 hq
      simp only at h1 h2 ⊢
      rcases h2 with rfl | rfl
      · by_cases k1 : k = p
        · rw [k1, hpd, a1, ← a3, a2]
        · by_cases k2 : k = n
          · rw [k2, v2n, a3]
          · have := tied_arc (f := swp g2 p n) h1; rwa [swp_o k1 k2] at this
      · exact tied_mate h1
  have hV := hE.vN
  have hF := hE.fN
  have hC := hE.cN
  refine ⟨swp g2 p n, p3, by omega, ?_, fun k hk => ?_⟩
  · obtain ⟨x, hx, hgx⟩ := gen_half h hn
    obtain ⟨y, hy, hgy⟩ := gen_half p3 hn2
    rw [hgx, hgy]
    omega
  · by_cases k1 : k = d
    · rw [if_pos k1, k1, swp_o (fun e => hpd' e.symm) (by omega), v2d]
    · rw [if_neg k1]
      by_cases k2 : k = n
      · rw [if_pos k2, k2, swp_r, hpd]
      · rw [if_neg k2]
        by_cases k3 : k = n + 1
        · rw [if_pos k3, k3]
          by_cases hfd : f d = d
          · rw [if_pos hfd]
            have : p = n + 1 := p2.inj _ _ hp (by omega) (by rw [hpd, v2n1, hfd])
            rw [this, swp_l, v2n]
          · rw [if_neg hfd]
            have : n + 1 ≠ p := fun e => hfd (by rw [← v2n1, e, hpd])
            rw [swp_o this (by omega), v2n1]
        · rw [if_neg k3]
          have hkn : k < n := by omega
          by_cases hfk : f k = d
          · rw [if_pos hfk]
            have : k = p := p2.inj _ _ hk hp (by rw [hpd, v2 k hkn k1, hfk])
            rw [this, swp_l, v2n]
          · rw [if_neg hfk]
            have : k ≠ p := fun e => hfk (by rw [← v2 k hkn k1, e, hpd])
            rw [swp_o this k2, v2 k hkn k1]
theorem sub_facts {l : List Int} {e : Int} (h : SubOk l e) : IsM (sub l e) ∧ genus (sub l e) = genus l ∧ (cycs (sub l e)).length = (cycs l).length + 1 := by
  obtain ⟨⟨hM, h3, h4⟩, hr⟩ := h
  have hM' := hM
  obtain ⟨h1, h2, hev, hP⟩ := hM'
  have hd : 2 * e.toNat + 1 < l.length := by omega
  obtain ⟨g, pg, hv, hg, hval⟩ := sub_steps (per_at hP) hev hd
  have hs : sub l e = row (subF l (2 * e.toNat + 1)) (l.length + 2) := by unfold sub; rw [if_pos ⟨⟨hM, h3, h4⟩, hr⟩]
  have hsub : ∀ k, k < l.length + 2 → subF l (2 * e.toNat + 1) k = g k := fun k hk => by rw [hval k hk]; rfl
  have hps : Per (subF l (2 * e.toNat + 1)) (l.length + 2) := pg.congr hsub
  have hlen : (sub l e).length = l.length + 2 := by rw [hs, row_len]
  have hMs : IsM (sub l e) := ⟨by omega, by rw [hlen]; exact hr, by omega, by rw [hs]; exact per_row hps⟩
  have hat : ∀ k, k < l.length + 2 → at_ (sub l e) k = g k := fun k hk => by rw [hs, at_of_row hk, hsub k hk]
  refine ⟨hMs, ?_, ?_⟩
  · rw [genus_gen hMs, genus_gen hM, hlen, gen_congr (by omega) hat, hg]
  · rw [cycs_len hMs.2.2.2, cycs_len hP, hlen]
    unfold cnum
    rw [arcs_congr hat]
    exact hv
end Mp
end Go.Proofs.Ytjpafacldcnboaa
