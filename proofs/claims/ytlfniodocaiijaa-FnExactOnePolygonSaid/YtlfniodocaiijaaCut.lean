/-
  The least letter that does not occur; rows that are laid into rows which a call holds.
-/
import Derived.Test.YtlfniodocaiijaaBase
import Derived.Test.YtlfniodocaiijaaSlice
import Derived.Test.YtlfniodocaiijaaIntRow
import Derived.Test.YtlfniodocaiijaaInts
import Derived.Test.YtlfniodocaiijaaOwn
import Derived.Test.YtlfniodocaiijaaGrid
import Derived.Test.YtlfniodocaiijaaGridWalk
import Derived.Test.YtlfniodocaiijaaGridRows
import Derived.Test.YtlfniodocaiijaaWord
import Derived.Test.YtlfniodocaiijaaGlue
import Derived.Test.YtlfniodocaiijaaIsWord
import Derived.Test.YtlfniodocaiijaaUses
import Derived.Test.YtlfniodocaiijaaIsGluing
import Derived.Test.YtlfniodocaiijaaAppend
import Derived.Test.YtlfniodocaiijaaConcat
import Derived.Test.YtlfniodocaiijaaTurn
import Derived.Test.YtlfniodocaiijaaClass
import Derived.Test.YtlfniodocaiijaaLab
import Derived.Test.YtlfniodocaiijaaLetters
import Derived.Test.YtlfniodocaiijaaMove
import Derived.Test.YtlfniodocaiijaaMoveA
import Derived.Test.YtlfniodocaiijaaMoveB
import Derived.Test.YtlfniodocaiijaaMoveC
import Derived.Deep.RegionLaw
import Derived.Deep.RegionWith
namespace Go.Proofs.Ytlfniodocaiijaa
open Go.RowKit

namespace Mv
open Glue
theorem newL_cases (L : List (List Int)) : (∃ k, k < 8 ∧ newL L = k + 1 ∧ cnt L.flatten (k + 1) = 0 ∧ ∀ j, j < k → 0 < cnt L.flatten (j + 1)) ∨ (newL L = 9 ∧ ∀ j, j < 8 → 0 < cnt L.flatten (j + 1)) := by
  unfold newL
  cases h : (List.range 8).find? fun k => cnt L.flatten (k + 1) == 0 with
  | none =>
    right
    refine ⟨rfl, fun j hj => ?_⟩
    have := List.find?_eq_none.1 h j (List.mem_range.2 hj)
    simp at this; omega
  | some k =>
    left
    obtain ⟨h1, h2, h3⟩ := List.find?_range_eq_some.1 h
    refine ⟨k, List.mem_range.1 h2, rfl, by simpa using h1, fun j hj => ?_⟩
    have := h3 j hj
    simp at this; omega
theorem newL_pos (L : List (List Int)) : 1 ≤ newL L ∧ newL L ≤ 9 := by
  rcases newL_cases L with ⟨k, h1, h2, _⟩ | ⟨h, _⟩ <;> omega
theorem newL_used {L : List (List Int)} {x : Nat} (h0 : 1 ≤ x) (h : x < newL L) : 0 < cnt L.flatten x := by
  rcases newL_cases L with ⟨k, h1, h2, h3, h4⟩ | ⟨h1, h2⟩
  · have := h4 (x - 1) (by omega); rwa [show x - 1 + 1 = x by omega] at this
  · have := h2 (x - 1) (by omega); rwa [show x - 1 + 1 = x by omega] at this
theorem newL_free {L : List (List Int)} (h : newL L ≠ 9) : cnt L.flatten (newL L) = 0 := by
  rcases newL_cases L with ⟨k, h1, h2, h3, h4⟩ | ⟨h1, h2⟩
  · rw [h2]; exact h3
  · exact absurd h1 h
theorem mem_edge {L : List (List Int)} (hG : IsG L) {x : Nat} (h0 : 1 ≤ x) : ((x : Nat) : Int) ∈ edgeLetters L ↔ x < 9 ∧ 0 < cnt L.flatten x := by
  unfold edgeLetters; rw [if_pos hG]
  unfold letters lettersTo
  simp only [List.mem_map, List.mem_filter, List.mem_range, decide_eq_true_eq]
  constructor
  · rintro ⟨k, ⟨h1, h2, h3⟩, h4⟩
    obtain rfl : k = x := by have : (k : Int) = (x : Int) := h4; omega
    rw [uses_cnt L h1] at h2
    exact ⟨h1, by omega⟩
  · rintro ⟨h1, h2⟩
    refine ⟨x, ⟨h1, ?_, ?_⟩, rfl⟩
    · rw [uses_cnt L h1]; omega
    · rw [uses_cnt L h1]; have := ((isG_iff L).1 hG).2.2.2.2 x h1; omega
theorem cut_nine {L : List (List Int)} {p i j : Int} (h : newL L = 9) : ¬ IsG (cutAt L p i j) := fun hG => by
  have := (hG.w ([-(newL L : Int)] ++ (row L p).drop j.toNat ++ (row L p).take i.toNat) (by unfold cutAt; simp)).1 (-(newL L : Int)) (by simp)
  rw [h] at this
  have := this.2.1
  omega
end Mv

theorem tot_of_append (L : List (List Int)) (r : List Int) : tot (L ++ [r]) = L.length + sumLen L + 1 + r.length := by
  unfold tot sumLen; simp; omega
/-- Parts in a literal, concatenated. -/
theorem concat_parts (ps : List Part) (W : World) (K n : Nat) (cs : Array Value) (hK : W.heap.size = K) (hn : ps.length = n) (hc : ps.map Part.cell = cs.toList) (hps : ∀ p ∈ ps, RowAt W p.1 (intCells p.2.2)) (h4 : n ≤ 1000) (hl : Part.len ps ≤ 4194304) :
    Calls Try.prog 52 #[.slice (some ⟨K, 0, none⟩) n n] (W.alloc (.cells cs 42)) fun e w' => Gives (W.alloc (.cells cs 42)) (Part.all ps) e w' := by
  subst hK; subst hn
  have hb : Below W.heap.size W (W.alloc (.cells cs 42)) := (Below.refl _ _).alloc (Nat.le_refl _) _
  exact slices_Concat (some ⟨W.heap.size, 0, none⟩) ps.length ps _ (by rw [hc]; exact (Blk.new W 42 cs).row) (fun i hi => (hps _ (List.getElem_mem hi)).below hb) h4 hl
/-- The same in whatever world the literal lies. -/
theorem concat_at (ps : List Part) (W : World) (a : Option Addr) (n : Nat) (hrow : RowAt W a (ps.map Part.cell)) (hn : ps.length = n) (hps : ∀ p ∈ ps, RowAt W p.1 (intCells p.2.2)) (h4 : n ≤ 1000) (hl : Part.len ps ≤ 4194304) :
    Calls Try.prog 52 #[.slice a n n] W fun e w' => Gives W (Part.all ps) e w' := by
  subst hn
  exact slices_Concat a ps.length ps W hrow (fun i hi => hps _ (List.getElem_mem hi)) h4 hl
/-- A row that is younger than the held ones is laid in the place of one. -/
theorem Held.put_new {w0 w : World} {N g cap n p rc : Nat} {L : List (List Int)} {r : List Int} {ra : Option Addr} (h : Held w0 N (.slice (some ⟨g, 0, none⟩) n cap) L) (hb : Below w0.heap.size w0 w) (hp : p < L.length) (hr : RowIn w w0.heap.size w.heap.size 3 ra (intCells r)) (hrc : r.length ≤ rc) :
    Held (w.setCell ⟨g, p, none⟩ (.slice ra r.length rc)) N (.slice (some ⟨g, 0, none⟩) n cap) (L.set p r) := by
  obtain ⟨hs, rfl, h2, h3, h4⟩ := h
  obtain ⟨a', c', he⟩ := own_len h2
  cases he
  have hp' : p < hs.length := by simpa using hp
  have hsz : (w.setCell ⟨g, p, none⟩ (.slice ra r.length rc)).heap.size = w.heap.size := by simp [World.setCell]
  have hN : N ≤ w0.heap.size := by have := h2.lt g rfl; omega
  have hws := hb.size
  have h2' := own_keep h2 hb (fun k hk => (h2.lt k hk).2)
  obtain ⟨cur, hcur⟩ := own_type h2' g rfl
  have far : ∀ {a : Option Addr} {cs : List Value} {l h : Nat}, RowIn w l h 3 a cs → RowIn (w.setCell ⟨g, p, none⟩ (.slice ra r.length rc)) l h 3 a cs := by
    intro a cs l h hh
    rcases hh with e | ⟨g', o, all, e, e1, e2, e3, e4⟩
    · exact Or.inl e
    · refine Or.inr ⟨g', o, all, e, e1, e2, e3.far (fun e5 => ?_) _, e4⟩
      have e5 : g' = g := e5
      subst e5
      unfold Blk at e3; rw [hcur] at e3
      injection e3 with e3; injection e3 with _ e6 _
      exact absurd e6 (by decide)
  refine ⟨hs.set p ⟨ra, rc, r⟩, by rw [List.map_set], ?_, fun x hx => ?_, pair_set h4 (fun y hy => ?_) hrc⟩
  · rw [List.length_set, hdCells_set]
    exact (h2'.stored p (.slice ra r.length rc)).1
  · rw [hsz]
    rcases List.mem_or_eq_of_mem_set hx with hx | rfl
    · exact (far ((h3 x hx).below hb)).mono (Nat.le_refl _) hws
    · exact (far hr).mono hN (Nat.le_refl _)
  · rcases h3 y hy with e | ⟨g1, o1, all1, e, _, e1, _⟩
    · exact Or.inl (by simpa [intCells] using e)
    · rcases hr with e' | ⟨g2, o2, all2, e', e2, _⟩
      · exact Or.inr (Or.inl (by simpa [intCells] using e'))
      · right; right
        intro g3 o3 g4 o4 h5 h6
        rw [e] at h5; cases h5
        rw [show (⟨ra, rc, r⟩ : Hd).a = ra from rfl, e'] at h6; cases h6
        omega

set_option maxRecDepth 10000 in
set_option maxHeartbeats 1000000 in
theorem impl_leastNewLetter (a : Option Addr) (c : Nat) (L : List (List Int)) (w : World) (ha : GridAt w a L) (hG : Glue.IsG L) :
    Calls Try.prog 50 #[.slice a L.length c] w fun e w' => e = .returned (.int .i64 (Mv.newL L : Nat)) ∧ Below w.heap.size w w' := by
  have hE := impl_EdgeLetters a c L w ha (Nat.le_trans (Mv.tot_of hG) (by decide))
  have hm := fun x h0 => Mv.mem_edge hG (x := x) h0
  have hlen := Glue.edgeLetters_len L
  have hu := fun x h0 h1 => Mv.newL_used (L := L) (x := x) h0 h1
  have hf := Mv.newL_free (L := L)
  obtain ⟨hp0, hp1⟩ := Mv.newL_pos L
  have hin : ∀ x : Nat, 1 ≤ x → x < Mv.newL L → ((x : Nat) : Int) ∈ Glue.edgeLetters L := fun x h0 h1 => (hm x h0).2 ⟨by omega, hu x h0 h1⟩
  have hno : ((Mv.newL L : Nat) : Int) ∉ Glue.edgeLetters L := fun h => by
    have := (hm _ hp0).1 h
    have := hf (by omega); omega
  generalize Mv.newL L = M at *
  generalize Glue.edgeLetters L = E at *
  have HE := Lib.hid hE; have Hin := Lib.hid hin; have Hno := Lib.hid hno
  clear hE hm hu hf hin hno
  go_enter Try.func50, Try.ntmps50
  go_wp2_with fail
  refine HE.out.mono ?_
  rintro e w1 ⟨ea, ec, rfl, _, _, hf, hb1⟩
  have Hrow := Lib.hid hf.row; have Hb1 := Lib.hid hb1
  clear hf hb1
  go_wp2
  go_loopw [4] (fun xv wr => wr = w1 ∧ ∃ i : Nat, 1 ≤ i ∧ i ≤ M ∧ xv = .int .i64 i) (fun xv _ => M - (intOf xv).toNat)
  case atStart => exact ⟨rfl, 1, by omega, hp0, rfl⟩
  case round =>
    obtain ⟨hwr, i, hi0, hi1, rfl⟩ := hrel
    have hC := lib_Contains ea ec E (i : Int) wr (by rw [hwr]; exact Hrow.out) (by omega)
    by_cases hlt : i < M
    · rw [decide_eq_true (Hin.out i hi0 hlt)] at hC
      have HC := Lib.hid hC; have Hwr := Lib.hid hwr
      clear hC hwr
      go_wp2_with fail
      refine HC.out.mono ?_
      rintro e w9 ⟨rfl, hw9⟩
      rw [hw9]; clear hw9
      go_wp2
      go_roundw
      case rel => exact ⟨Hwr.out, i + 1, by omega, by omega, by go_num⟩
      case measure => simp [intOf] <;> omega
    · obtain rfl : i = M := by omega
      rw [decide_eq_false Hno.out] at hC
      have HC := Lib.hid hC; have Hwr := Lib.hid hwr
      clear hC hwr
      go_wp2_with fail
      refine HC.out.mono ?_
      rintro e w9 ⟨rfl, hw9⟩
      rw [hw9]; clear hw9
      go_wp2
      go_ret
      exact ⟨rfl, by rw [Hwr.out]; exact Hb1.out⟩
set_option maxRecDepth 10000 in
set_option maxHeartbeats 1000000 in
theorem spec_l5Unused (a : Option Addr) (c : Nat) (L : List (List Int)) (w : World) (ha : GridAt w a L) (hG : Glue.IsG L) :
    Calls Try.prog 56 #[.slice a L.length c] w fun e w' => e = .returned (.int .i64 ((if Mv.newL L = 9 then 0 else Mv.newL L : Nat) : Int)) ∧ Below w.heap.size w w' := by
  have hE := spec_l3Uses a c L w ha hG.w (by have := hG.2.2.2.1; omega) (by have := hG.2.1; omega)
  have hu := fun x h0 h1 => Mv.newL_used (L := L) (x := x) h0 h1
  have hf := Mv.newL_free (L := L)
  obtain ⟨hp0, hp1⟩ := Mv.newL_pos L
  have hget : ∀ x, x < 9 → (intCells (Glue.uses L))[x]? = some (.int .i64 ((Mv.cnt L.flatten x : Nat) : Int)) := fun x hx => by
    have hx' : x < (Glue.uses L).length := by rw [Glue.uses_len]; exact hx
    rw [intCells_get hx', Glue.uses_at x hx', Mv.uses_cnt L hx]
  have hin : ∀ x : Nat, 1 ≤ x → x < Mv.newL L → (((Mv.cnt L.flatten x : Nat) : Int) == 0) = false := fun x h0 h1 => by have := hu x h0 h1; exact beq_eq_false_iff_ne.2 (by omega)
  have hno : Mv.newL L ≠ 9 → (((Mv.cnt L.flatten (Mv.newL L) : Nat) : Int) == 0) = true := fun h => by rw [hf h]; rfl
  have hget' : ∀ x, x < 9 → (intCells (Glue.uses L)).toArray[x]? = some (.int .i64 ((Mv.cnt L.flatten x : Nat) : Int)) := fun x hx => by simpa using hget x hx
  obtain ⟨R, hR⟩ : ∃ R : Nat, (if Mv.newL L = 9 then 0 else Mv.newL L) = R := ⟨_, rfl⟩
  rw [hR]
  have hR1 : Mv.newL L ≠ 9 → R = Mv.newL L := fun h => by rw [← hR, if_neg h]
  have hR2 : Mv.newL L = 9 → R = 0 := fun h => by rw [← hR, if_pos h]
  have HR1 := Lib.hid hR1; have HR2 := Lib.hid hR2
  clear hR hR1 hR2
  generalize Mv.newL L = M at *
  generalize (intCells (Glue.uses L)).toArray = U at *
  obtain ⟨cn, hcn⟩ : ∃ cn : Nat → Nat, cn = fun x => Mv.cnt L.flatten x := ⟨_, rfl⟩
  have hget2 : ∀ x, x < 9 → U[x]? = some (.int .i64 ((cn x : Nat) : Int)) := fun x hx => by rw [hcn]; exact hget' x hx
  have hin2 : ∀ x : Nat, 1 ≤ x → x < M → (((cn x : Nat) : Int) == 0) = false := fun x h0 h1 => by rw [hcn]; exact hin x h0 h1
  have hno2 : M ≠ 9 → (((cn M : Nat) : Int) == 0) = true := fun h => by rw [hcn]; exact hno h
  have HE := Lib.hid hE; have Hin := Lib.hid hin2; have Hno := Lib.hid hno2; have Hget := Lib.hid hget2
  clear hE hu hf hget hin hno hget' hcn hget2 hin2 hno2
  go_enter Try.func56, Try.ntmps56
  go_wp2_with fail
  refine HE.out.mono ?_
  rintro e w1 ⟨g, rfl, hg, hk, hb1⟩
  have Hk := Lib.hid hk; have Hb1 := Lib.hid hb1
  clear hk hb1
  go_wp2
  go_loopw [2, 4] (fun rv xv wr => wr = w1 ∧ rv = .int .i64 0 ∧ ∃ i : Nat, 1 ≤ i ∧ i ≤ M ∧ i ≤ 9 ∧ xv = .int .i64 i) (fun _ xv _ => 9 - (intOf xv).toNat)
  case atStart => exact ⟨rfl, rfl, 1, by omega, hp0, by omega, rfl⟩
  case round =>
    obtain ⟨hwr, rfl, i, hi0, hi1, hi9, rfl⟩ := hrel
    by_cases h9 : i < 9
    · have hcell : wr.cell? ⟨g, i, none⟩ = some (.int .i64 ((cn i : Nat) : Int)) := by rw [hwr, Hk.out.cell i]; exact Hget.out i h9
      have q0 : (0 : Int) ≤ (i : Int) := by omega
      have q1 : (i : Int) < 9 := by omega
      have dlt : decide ((i : Int) < 9) = true := decide_eq_true q1
      have Hwr := Lib.hid hwr
      by_cases hlt : i < M
      · have bz := Hin.out i hi0 hlt
        clear hwr
        go_wp2
        go_roundw
        case rel => exact ⟨Hwr.out, rfl, i + 1, by omega, by omega, by omega, by go_num⟩
        case measure => simp [intOf] <;> omega
      · obtain rfl : i = M := by omega
        have bz := Hno.out (by omega)
        clear hwr
        go_wp2
        go_ret
        rw [HR1.out (by omega)]
        exact ⟨rfl, by rw [Hwr.out]; exact Hb1.out⟩
    · obtain rfl : i = 9 := by omega
      obtain rfl : M = 9 := by omega
      have Hwr := Lib.hid hwr
      clear hwr
      go_wp2
      go_ret
      rw [HR2.out (by first | trivial | rfl)]
      exact ⟨rfl, by rw [Hwr.out]; exact Hb1.out⟩
end Go.Proofs.Ytlfniodocaiijaa
