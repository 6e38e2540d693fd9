/-
  The walks of the program's GenusRow: every rotation comes once, and is counted by its genus.
-/
import Derived.Test.YtpgdmbolckogcaaBase
import Derived.Test.YtpgdmbolckogcaaSlice
import Derived.Test.YtpgdmbolckogcaaIntRow
import Derived.Test.YtpgdmbolckogcaaInts
import Derived.Test.YtpgdmbolckogcaaOwn
import Derived.Test.YtpgdmbolckogcaaGrid
import Derived.Test.YtpgdmbolckogcaaGridRows
import Derived.Test.YtpgdmbolckogcaaClass
import Derived.Test.YtpgdmbolckogcaaLab
import Derived.Test.YtpgdmbolckogcaaMap
import Derived.Test.YtpgdmbolckogcaaMapB
import Derived.Test.YtpgdmbolckogcaaMapF
import Derived.Test.YtpgdmbolckogcaaMapTopo
import Derived.Test.YtpgdmbolckogcaaMapTopo2
import Derived.Test.YtpgdmbolckogcaaMapTopo3
import Derived.Test.YtpgdmbolckogcaaGraph
import Derived.Test.YtpgdmbolckogcaaGraphA
import Derived.Test.YtpgdmbolckogcaaGraphRot
import Derived.Test.YtpgdmbolckogcaaGraphEn
import Derived.Test.YtpgdmbolckogcaaGraphB
import Derived.Test.YtpgdmbolckogcaaGraphD
import Derived.Test.YtpgdmbolckogcaaGraphE
import Derived.Test.YtpgdmbolckogcaaGraphF
import Derived.Deep.QuietTactic
import Derived.BigQuiet
namespace Go.Proofs.Ytpgdmbolckogcaa
open Go.RowKit

namespace Gr
open Mp (behind swp Per gen)
def genN (n : Nat) (f : Nat → Nat) : Nat := (gen f n).toNat
theorem behind_fun {f : Nat → Nat} {d b : Nat} (h : f d = d) (hb : b ≠ d) : behind f d b = swp f d b := by
  funext k
  unfold behind Mp.upd swp
  by_cases h1 : k = b
  · subst h1; rw [if_pos rfl, if_neg hb, if_pos rfl, h]
  · rw [if_neg h1]
    by_cases h2 : k = d
    · rw [if_pos h2, if_pos h2]
    · rw [if_neg h2, if_neg h2, if_neg h1]
theorem isM_row {f : Nat → Nat} {n : Nat} (h : Per f n) (h1 : 2 ≤ n) (h2 : n ≤ 24) (h3 : n % 2 = 0) : Mp.IsM (Cls.row f n) := ⟨by rw [Cls.row_len]; exact h1, by rw [Cls.row_len]; exact h2, by rw [Cls.row_len]; exact h3, Mp.per_row h⟩
theorem genus_row {f : Nat → Nat} {n : Nat} (h : Per f n) (h1 : 2 ≤ n) (h2 : n ≤ 24) (h3 : n % 2 = 0) : Mp.genus (Cls.row f n) = ((genN n f : Nat) : Int) := by
  have hM := isM_row h h1 h2 h3
  rw [Mp.genus_gen hM, Cls.row_len, Mp.gen_congr h3 fun d hd => Mp.at_of_row hd]
  exact (Int.toNat_of_nonneg (Mp.gen_nonneg h h3)).symm
theorem genusOf_row {f : Nat → Nat} {n : Nat} (h : Per f n) (h1 : 2 ≤ n) (h2 : n ≤ 24) (h3 : n % 2 = 0) : Mp.genusOf (Cls.row f n) = ((genN n f : Nat) : Int) := by
  unfold Mp.genusOf; rw [if_pos (isM_row h h1 h2 h3)]; exact genus_row h h1 h2 h3
theorem genus_small {l : List Int} (h : Mp.IsM l) : Mp.genus l ≤ 100 := by
  have b1 : (Mp.cycs l).length ≤ 24 := Nat.le_trans Mp.cycs_le h.2.1
  have b2 : (Mp.cycs (Mp.dual l)).length ≤ 24 := Nat.le_trans Mp.cycs_le (by rw [Mp.dual_len]; exact h.2.1)
  have b3 : Mp.parts l ≤ 24 := Nat.le_trans Mp.parts_le h.2.1
  have h24 := h.2.1
  unfold Mp.genus
  have := Mp.tdiv2 (((Mp.cycs l).length : Int) - ((l.length / 2 : Nat) : Int) + ((Mp.cycs (Mp.dual l)).length : Int))
  omega
theorem genN_small {f : Nat → Nat} {n : Nat} (h : Per f n) (h1 : 2 ≤ n) (h2 : n ≤ 24) (h3 : n % 2 = 0) : genN n f ≤ 100 := by
  have := genus_row h h1 h2 h3
  have := genus_small (isM_row h h1 h2 h3)
  omega
theorem byDart_zero (u : Nat → Nat) (d : Nat) (f : Nat → Nat) : byDart u d 0 f = [f] := rfl
theorem byDart_nil {u : Nat → Nat} {d k : Nat} {f : Nat → Nat} (h : at7 u d (u d) = []) : byDart u d (k + 1) f = byDart u (d + 1) k f := by
  unfold byDart; rw [List.range'_succ]; simp only [En]; rw [if_pos h]
theorem byDart_cons {u : Nat → Nat} {d k : Nat} {f : Nat → Nat} (h : at7 u d (u d) ≠ []) : byDart u d (k + 1) f = (at7 u d (u d)).flatMap fun b => byDart u (d + 1) k (behind f d b) := by
  unfold byDart; rw [List.range'_succ]; simp only [En]; rw [if_neg h]
/-- The rotations in which the dart d lies behind one of the first i. -/
def upto (u : Nat → Nat) (d k i : Nat) (f : Nat → Nat) (l : List Nat) : List (Nat → Nat) := (l.take i).flatMap fun b => byDart u (d + 1) k (behind f d b)
theorem upto_step {u : Nat → Nat} {d k i b : Nat} {f : Nat → Nat} {l : List Nat} (h : l[i]? = some b) : upto u d k (i + 1) f l = upto u d k i f l ++ byDart u (d + 1) k (behind f d b) := by
  obtain ⟨hi, rfl⟩ := List.getElem?_eq_some_iff.1 h
  unfold upto
  rw [List.take_succ_eq_append_getElem hi, List.flatMap_append]; simp
theorem upto_len {u : Nat → Nat} {d k i : Nat} {f : Nat → Nat} {l : List Nat} : (upto u d k i f l).length ≤ (upto u d k l.length f l).length := by
  unfold upto
  rw [List.take_of_length_le (Nat.le_refl _), List.length_flatMap, List.length_flatMap]
  have : (l.map fun b => (byDart u (d + 1) k (behind f d b)).length).sum = ((l.take i).map fun b => (byDart u (d + 1) k (behind f d b)).length).sum + ((l.drop i).map fun b => (byDart u (d + 1) k (behind f d b)).length).sum := by
    rw [← List.sum_append, ← List.map_append, List.take_append_drop]
  omega
theorem upto_end {u : Nat → Nat} {d k : Nat} {f : Nat → Nat} (h : at7 u d (u d) ≠ []) : upto u d k (at7 u d (u d)).length f (at7 u d (u d)) = byDart u d (k + 1) f := by
  rw [byDart_cons h]; unfold upto; rw [List.take_of_length_le (Nat.le_refl _)]
theorem hist_most {gs : List Nat} (h : ∀ x ∈ gs, x ≤ 100) : (hist gs).length ≤ 200 := by
  rw [hist_len]
  exact Nat.le_trans (most_lt (B := 101) fun g hg => by have := h g hg; omega) (by decide)
end Gr

/-- Nothing is written but into the blocks B, g, r, and new ones. -/
def Keep3 (B g : Nat) (r : Option Nat) (w w' : World) : Prop :=
  w'.os = w.os ∧ w'.tape = w.tape ∧ w'.output = w.output ∧ w.heap.size ≤ w'.heap.size ∧ ∀ k, k < w.heap.size → k ≠ B → k ≠ g → some k ≠ r → w'.heap[k]? = w.heap[k]?
/-- .. and where the row lies then. -/
def RStep (B g : Nat) (w : World) (rv : Value) (w' : World) (rv' : Value) : Prop := Keep3 B g rv.ownBlock w w' ∧ (rv'.ownBlock = rv.ownBlock ∨ ∀ k, rv'.ownBlock = some k → w.heap.size ≤ k)
theorem RStep.refl (B g : Nat) (w : World) (rv : Value) : RStep B g w rv w rv := ⟨⟨rfl, rfl, rfl, Nat.le_refl _, fun _ _ _ _ _ => rfl⟩, Or.inl rfl⟩
theorem RStep.trans {B g : Nat} {w w1 w2 : World} {rv rv1 rv2 : Value} (h : RStep B g w rv w1 rv1) (h' : RStep B g w1 rv1 w2 rv2) : RStep B g w rv w2 rv2 := by
  obtain ⟨⟨a1, a2, a3, a4, a5⟩, a6⟩ := h
  obtain ⟨⟨b1, b2, b3, b4, b5⟩, b6⟩ := h'
  refine ⟨⟨b1.trans a1, b2.trans a2, b3.trans a3, Nat.le_trans a4 b4, fun k hk kB kg kr => ?_⟩, ?_⟩
  · rw [b5 k (by omega) kB kg (fun e => by
      rcases a6 with h | h
      · rw [h] at e; exact kr e
      · have := h k e.symm; omega)]
    exact a5 k hk kB kg kr
  · rcases b6 with h | h
    · rw [h]; exact a6
    · right; intro k hk; have := h k hk; omega
theorem RStep.of_below {B g : Nat} {w w' : World} (rv : Value) (h : Below w.heap.size w w') : RStep B g w rv w' rv := ⟨⟨h.os, h.tape, h.output, h.size, fun k hk _ _ _ => h.block k hk⟩, Or.inl rfl⟩
theorem RStep.of_grown {B g : Nat} {w w' : World} (rv : Value) (h : w.grownBy w' (some g)) : RStep B g w rv w' rv := ⟨⟨h.os, h.tape, h.output, h.size, fun k hk _ kg _ => h.block k hk (fun e => kg (Option.some.inj e))⟩, Or.inl rfl⟩
theorem RStep.blk {B g k : Nat} {w w' : World} {rv rv' : Value} {t : TypeId} {cs : Array Value} (h : RStep B g w rv w' rv') (hk : Blk w k t cs) (h1 : k ≠ B) (h2 : k ≠ g) (h3 : rv.ownBlock ≠ some k) : Blk w' k t cs := (h.1.2.2.2.2 k hk.lt h1 h2 (fun e => h3 e.symm)).trans hk
theorem RStep.row {B g : Nat} {w w' : World} {rv rv' : Value} {a : Option Addr} {cs : List Value} (h : RStep B g w rv w' rv') (hr : RowAt w a cs) (ho : ∀ b o, a = some ⟨b, o, none⟩ → b ≠ B ∧ b ≠ g ∧ rv.ownBlock ≠ some b) : RowAt w' a cs := by
  rcases hr with hr | ⟨b, o, rfl, hlt, hc⟩
  · exact Or.inl hr
  · obtain ⟨h1, h2, h3⟩ := ho b o rfl
    have hb := h.1.2.2.2.2 b hlt h1 h2 (fun e => h3 e.symm)
    refine Or.inr ⟨b, o, rfl, Nat.lt_of_lt_of_le hlt h.1.2.2.2.1, fun i v hv => ?_⟩
    have h2 : w'.cell? ⟨b, o + i, none⟩ = w.cell? ⟨b, o + i, none⟩ := by simp only [World.cell?, hb]
    rw [h2]; exact hc i v hv

/-- What lies in memory while the rotations are gone through. -/
structure RInv (w0 : World) (N rb vb gb pb B p g cap n len c : Nat) (a : Option Addr) (f : Nat → Nat) (gs : List Nat) (rv : Value) (w : World) : Prop where
  rot : Blk w rb 42 #[.pointer (some ⟨p, 0, none⟩)]
  vis : Blk w vb 50 #[.func (.func 50) #[] #[.pointer (some ⟨B, 0, none⟩)]]
  gra : Blk w gb 22 #[.slice a len c]
  pla : Blk w pb 53 #[.func (.func 59) #[] #[.pointer (some ⟨rb, 0, none⟩), .pointer (some ⟨vb, 0, none⟩), .pointer (some ⟨gb, 0, none⟩), .pointer (some ⟨pb, 0, none⟩)]]
  map : MapG w N p g cap f n
  box : Blk w B 27 #[rv]
  own : w.ownsRow N 3 1 rv (Gr.hist gs).length (intCells (intsOf (Gr.hist gs)))
  off : rv.ownBlock ≠ some g
  low : N ≤ B
  bel : Below N w0 w
  few : ∀ x ∈ gs, x ≤ 100
section
variable {w0 w w' : World} {N rb vb gb pb B p g cap n len c : Nat} {a : Option Addr} {f f' : Nat → Nat} {gs : List Nat} {rv rv' : Value}
theorem RInv.g_ne (h : RInv w0 N rb vb gb pb B p g cap n len c a f gs rv w) {k : Nat} {t : TypeId} {cs : Array Value} (hk : Blk w k t cs) (ht : t ≠ 3) : k ≠ g := fun e => (hk.off_own h.map.2.1 ht) (by rw [e]; rfl)
theorem RInv.next (h : RInv w0 N rb vb gb pb B p g cap n len c a f gs rv w) (hb : Below w.heap.size w w') (hN : N ≤ w.heap.size) : RInv w0 N rb vb gb pb B p g cap n len c a f gs rv w' :=
  ⟨h.rot.below hb h.rot.lt, h.vis.below hb h.vis.lt, h.gra.below hb h.gra.lt, h.pla.below hb h.pla.lt, h.map.below hb, h.box.below hb h.box.lt, own_keep h.own hb (fun k hk => (h.own.lt k hk).2), h.off, h.low, h.bel.trans (hb.mono hN), h.few⟩
theorem RInv.turn (h : RInv w0 N rb vb gb pb B p g cap n len c a f gs rv w) (hm : MapG w' N p g cap f' n) (hg : w.grownBy w' (some g)) (hN : N ≤ w.heap.size) : RInv w0 N rb vb gb pb B p g cap n len c a f' gs rv w' := by
  have hlo : N ≤ g := (h.map.2.1.lt g rfl).1
  exact ⟨h.rot.grown hg (fun e => h.g_ne h.rot (by decide) (Option.some.inj e)), h.vis.grown hg (fun e => h.g_ne h.vis (by decide) (Option.some.inj e)), h.gra.grown hg (fun e => h.g_ne h.gra (by decide) (Option.some.inj e)),
    h.pla.grown hg (fun e => h.g_ne h.pla (by decide) (Option.some.inj e)), hm, h.box.grown hg (fun e => h.g_ne h.box (by decide) (Option.some.inj e)), own_grown h.own hg (fun k hk e => h.off (by rw [hk, e])), h.off, h.low,
    h.bel.grown hg hN (fun k hk => by cases hk; exact hlo), h.few⟩
theorem RInv.counted (h : RInv w0 N rb vb gb pb B p g cap n len c a f gs rv w) {G : Nat} (hb : BoxRow w B N rv.ownBlock w' rv' (Gr.count (Gr.hist gs) G)) (hN : N ≤ w.heap.size) (hG : G ≤ 100) : RInv w0 N rb vb gb pb B p g cap n len c a f (gs ++ [G]) rv' w' ∧ RStep B g w rv w' rv' := by
  have hk := hb.2.2.2
  have hgl := (h.map.2.1.lt g rfl).2
  have hoff : rv'.ownBlock ≠ some g := hb.other hgl (fun e => h.off e.symm)
  have hoB : ∀ {k : Nat} {t : TypeId} {cs : Array Value}, Blk w k t cs → t ≠ 3 → t ≠ 27 → Blk w' k t cs := fun hx h1 h2 => hk.blk hx (fun e => Blk.ne hx h.box h2 e) (fun e => (hx.off_own h.own h1) e)
  refine ⟨⟨hoB h.rot (by decide) (by decide), hoB h.vis (by decide) (by decide), hoB h.gra (by decide) (by decide), hoB h.pla (by decide) (by decide), ⟨hoB h.map.1 (by decide) (by decide), ?_, h.map.2.2⟩, hb.1, ?_, hoff, h.low, ?_, fun x hx => ?_⟩, ?_⟩
  · obtain ⟨hx, h0 | ⟨b, cap', cur, e, hb', hh, h2⟩⟩ := h.map.2.1
    · exact ⟨hx, Or.inl h0⟩
    · cases e
      refine ⟨hx, Or.inr ⟨_, _, cur, rfl, hb', ?_, h2⟩⟩
      exact (hk.2.2.2.2 g hgl (fun e => h.g_ne h.box (by decide) e.symm) (fun e => h.off e.symm)).trans hh
  · rw [Gr.hist_snoc]; exact hb.2.1
  · exact hk.below h.bel h.low (fun k hk => (h.own.lt k hk).1) hN
  · rcases List.mem_append.1 hx with hx | hx
    · exact h.few x hx
    · rw [List.mem_singleton.1 hx]; exact hG
  · exact ⟨⟨hk.1, hk.2.1, hk.2.2.1, hk.2.2.2.1, fun k h1 h2 _ h3 => hk.2.2.2.2 k h1 h2 h3⟩, hb.2.2.1⟩
end

set_option maxRecDepth 10000 in
set_option maxHeartbeats 8000000 in
theorem impl_place (w0 : World) (L : List (List Int)) (rb vb gb pb B p g cap n c : Nat) (a : Option Addr) (hGr : GridAt w0 a L) (hG : Gr.IsG L) (hn : n = 2 * L.length) :
    ∀ (k d : Nat) (zd : Int) (f : Nat → Nat) (gs : List Nat) (rv : Value) (w : World), zd = ((d : Nat) : Int) → d + k = n → RInv w0 w0.heap.size rb vb gb pb B p g cap n L.length c a f gs rv w → (∀ x, d ≤ x → f x = x) → Mp.Per f n →
      gs.length + (Gr.byDart (Gr.vx L) d k f).length ≤ 2432902008176640000 →
      Calls Try.prog 59 #[.int .i64 zd, .pointer (some ⟨rb, 0, none⟩), .pointer (some ⟨vb, 0, none⟩), .pointer (some ⟨gb, 0, none⟩), .pointer (some ⟨pb, 0, none⟩)] w fun e w' => e = .returned (.tuple #[]) ∧
        ∃ rv', RInv w0 w0.heap.size rb vb gb pb B p g cap n L.length c a f (gs ++ (Gr.byDart (Gr.vx L) d k f).map (Gr.genN n)) rv' w' ∧ RStep B g w rv w' rv' := by
  have hn1 : 2 ≤ n := by have := hG.2.1; omega
  have hn2 : n ≤ 24 := by have := hG.2.2; omega
  have hn3 : n % 2 = 0 := by omega
  have Hn := Lib.hid hn
  have HG := Lib.hid hG
  have HGr := Lib.hid hGr
  clear hn hG hGr
  intro k
  induction k with
  | zero =>
    intro d zd f gs rv w hzd hdk hI hfix hper hcnt
    subst hzd
    obtain rfl : d = n := by omega
    have hN := hI.bel.size
    have hhd := impl_hasDart p w0.heap.size d f (d : Int) w hI.map.map
    rw [decide_eq_false (fun h => by omega)] at hhd
    obtain ⟨hcell, _, _, _, hrow⟩ := hI.map.open
    have hgs : ∀ x ∈ Gr.hist gs, x < 9000000000000000000 := fun x hx => by have := Gr.hist_le gs x hx; omega
    have hv := impl_visit p g cap d B w0.heap.size (Gr.genN d f) f (Gr.hist gs) rv w hcell hrow hn2 (Gr.genusOf_row hper hn1 hn2 hn3) (Gr.genN_small hper hn1 hn2 hn3) hgs (Gr.hist_most hI.few) hI.box hI.own hN
    have hfin := fun w' rv' (h : BoxRow w B w0.heap.size rv.ownBlock w' rv' (Gr.count (Gr.hist gs) (Gr.genN d f))) => hI.counted h hN (Gr.genN_small hper hn1 hn2 hn3)
    have k1 := hI.rot.cell 0
    have k2 := hI.vis.cell 0
    have Hhd := Lib.hid hhd; have Hv := Lib.hid hv; have Hfin := Lib.hid hfin
    clear hhd hv hfin hI hfix hper hcnt hcell hrow hgs hN
    go_enter Try.func59, Try.ntmps59
    go_wp2_with fail
    refine Hhd.out.mono ?_
    rintro e w1 ⟨rfl, hw⟩
    rw [hw]; clear hw
    go_wp2_with fail
    refine Hv.out.mono ?_
    rintro e w1 ⟨rfl, rv1, hbx⟩
    have Hbx := Lib.hid hbx
    clear hbx
    go_wp2
    exact bodyPost_ret (v := .tuple #[]) (by first | kernel_rfl | simp [results, Try.f59]) rfl ⟨rfl, rv1, (Hfin.out _ _ Hbx.out).1, (Hfin.out _ _ Hbx.out).2⟩
  | succ k ih =>
    intro d zd f gs rv w hzd hdk hI hfix hper hcnt
    subst hzd
    have hdn : d < n := by omega
    have hd24 : (d : Int) ≤ 24 := by omega
    have hN := hI.bel.size
    have hhd := impl_hasDart p w0.heap.size n f (d : Int) w hI.map.map
    rw [decide_eq_true (show 0 ≤ (d : Int) ∧ (d : Int) < (n : Int) by omega)] at hhd
    have hld := impl_lesserDarts a c L d w (HGr.out.below hI.bel) HG.out (by have := Hn.out; omega)
    have hmem : ∀ b, b ∈ Gr.at7 (Gr.vx L) d (Gr.vx L d) → b < d := fun b hb => (Gr.at7_mem.1 hb).1
    have hlen := Gr.at7_len (Gr.vx L) d (Gr.vx L d)
    have k1 := hI.rot.cell 0
    have k2 := hI.gra.cell 0
    have Hhd := Lib.hid hhd; have Hld := Lib.hid hld; have Hmem := Lib.hid hmem; have HI := Lib.hid hI
    clear hhd hld hmem hI
    by_cases hl0 : Gr.at7 (Gr.vx L) d (Gr.vx L d) = []
    · rw [Gr.byDart_nil hl0] at hcnt ⊢
      rw [hl0] at Hld hlen
      have hih := fun w1 (h : RInv w0 w0.heap.size rb vb gb pb B p g cap n L.length c a f gs rv w1) => ih (d + 1) ((d : Int) + 1) f gs rv w1 (by omega) (by omega) h (fun x hx => hfix x (by omega)) hper hcnt
      have Hih := Lib.hid hih
      clear ih hih hl0 hfix hper hcnt hdk Hmem
      go_enter Try.func59, Try.ntmps59
      go_wp2_with fail
      refine Hhd.out.mono ?_
      rintro e w1 ⟨rfl, hw⟩
      rw [hw]; clear hw
      go_wp2_with fail
      refine Hld.out.mono ?_
      rintro e w1 hg1
      obtain ⟨a3, c3, rfl, _, _, _, hb1⟩ := hg1
      have hI1 := HI.out.next hb1 hN
      have HI1 := Lib.hid hI1
      have k3 := hI1.pla.cell 0
      have HS1 := Lib.hid (RStep.of_below (B := B) (g := g) rv hb1)
      have hz0 : (intsOf []).length = 0 := rfl
      rw [hz0]
      clear hI1 hb1 k1 k2
      go_wp2_with fail
      refine (Hih.out w1 HI1.out).mono ?_
      rintro e w2 ⟨rfl, rv2, hI2, hS2⟩
      have HI2 := Lib.hid hI2; have HS2 := Lib.hid (HS1.out.trans hS2)
      clear hI2 hS2 k3
      go_wp2
      go_loopw [8, 28] (fun _ iv wr => iv = .int .i64 0 ∧ wr = w2) (fun _ _ _ => 0)
      case atStart => exact ⟨rfl, rfl⟩
      case round =>
        obtain ⟨rfl, hw⟩ := hrel
        rw [hw]
        clear hw
        go_wp2
        exact bodyPost_end (v := .tuple #[]) (by first | kernel_rfl | simp [results, Try.f59]) rfl ⟨rfl, rv2, HI2.out, HS2.out⟩
    · have hend := Gr.upto_end (u := Gr.vx L) (d := d) (k := k) (f := f) hl0
      rw [← hend] at hcnt ⊢
      have hl1 : 0 < (Gr.at7 (Gr.vx L) d (Gr.vx L d)).length := List.length_pos_iff.2 hl0
      generalize hu : Gr.vx L = u at *
      have Hu := Lib.hid hu
      clear hend hl0 hu
      generalize Gr.at7 u d (u d) = l at *
      have hl20 : l.length ≤ 24 := by omega
      have hlz : ¬ (l.length : Int) = 0 := by omega
      have hlz2 : ((l.length : Int) == 0) = false := beq_eq_false_iff_ne.2 hlz
      have hfd := hfix d (Nat.le_refl _)
      have hbf : ∀ b, b < d → Mp.behind f d b = Mp.swp f d b := fun b hb => Gr.behind_fun hfd (by omega)
      have hih := fun b (hb : b < d) gs' rv' w1 (h : RInv w0 w0.heap.size rb vb gb pb B p g cap n L.length c a (Mp.behind f d b) gs' rv' w1) (hc : gs'.length + (Gr.byDart u (d + 1) k (Mp.behind f d b)).length ≤ 2432902008176640000) => ih (d + 1) ((d : Int) + 1) (Mp.behind f d b) gs' rv' w1 (by omega) (by omega) h (fun x hx => by
        unfold Mp.behind Mp.upd
        rw [if_neg (by omega), if_neg (by omega)]
        exact hfix x (by omega)) (by rw [hbf b hb]; exact hper.swp hdn (by omega)) hc
      have hput := fun b (hb : b < d) wr (h : MapG wr w0.heap.size p g cap f n) => impl_putBehind_at w0.heap.size p g cap n f d b (d : Int) (b : Int) rfl rfl wr h hdn (by omega) (by omega)
      have hback : ∀ b, b < d → Mp.swp (Mp.behind f d b) d b = f := fun b hb => by rw [hbf b hb, Mp.swp_swp]
      have htake := fun b (hb : b < d) wr (h : MapG wr w0.heap.size p g cap (Mp.behind f d b) n) => impl_takeOut_at w0.heap.size p g cap n (Mp.behind f d b) d b (d : Int) rfl wr h hdn (by omega) (by simp [Mp.behind, Mp.upd]) (fun j hj hjd => by
        have hp : Mp.Per (Mp.behind f d b) n := by rw [hbf b hb]; exact hper.swp hdn (by omega)
        exact hp.inj j b hj (by omega) (by rw [hjd]; simp [Mp.behind, Mp.upd])) (by omega)
      have hcnti := fun i b (hb : l[i]? = some b) => (show (gs ++ (Gr.upto u d k i f l).map (Gr.genN n)).length + (Gr.byDart u (d + 1) k (Mp.behind f d b)).length ≤ 2432902008176640000 by
        have h1 := Gr.upto_step (u := u) (d := d) (k := k) (f := f) hb
        have h2 := Gr.upto_len (u := u) (d := d) (k := k) (i := i + 1) (f := f) (l := l)
        rw [h1, List.length_append] at h2
        rw [List.length_append, List.length_map]
        omega)
      have hstep := fun i b (hb : l[i]? = some b) => (show gs ++ (Gr.upto u d k (i + 1) f l).map (Gr.genN n) = gs ++ (Gr.upto u d k i f l).map (Gr.genN n) ++ (Gr.byDart u (d + 1) k (Mp.behind f d b)).map (Gr.genN n) by
        rw [Gr.upto_step hb, List.map_append, List.append_assoc])
      have Hih := Lib.hid hih; have Hput := Lib.hid hput; have Hback := Lib.hid hback; have Htake := Lib.hid htake; have Hcnt := Lib.hid hcnti; have Hstep := Lib.hid hstep
      clear ih hih hput hback htake hcnti hstep hbf hfd hfix hper hcnt hdk hlen hlz
      go_enter Try.func59, Try.ntmps59
      go_wp2_with fail
      refine Hhd.out.mono ?_
      rintro e w1 ⟨rfl, hw⟩
      rw [hw]; clear hw
      go_wp2_with fail
      refine Hld.out.mono ?_
      rintro e w1 hg1
      obtain ⟨a3, c3, rfl, _, _, hf1, hb1⟩ := hg1
      have HI1 := Lib.hid (HI.out.next hb1 hN)
      have HS1 := Lib.hid (RStep.of_below (B := B) (g := g) rv hb1)
      have hoff : ∀ b o, a3 = some ⟨b, o, none⟩ → l = [] ∨ (b ≠ B ∧ b ≠ g ∧ rv.ownBlock ≠ some b) := fun b o e => by
        rcases hf1 with h | ⟨b2, o2, all, rfl, hge, _⟩
        · left; simpa [intCells, intsOf] using h
        · cases e
          right
          refine ⟨fun e => ?_, fun e => ?_, fun e => ?_⟩
          · have := HI.out.box.lt; omega
          · have := (HI.out.map.2.1.lt g rfl).2; omega
          · have := (HI.out.own.lt _ e).2; omega
      have Hrow := Lib.hid hf1.row; have Hoff := Lib.hid hoff
      rw [intsOf_len]
      have hN1 : w0.heap.size ≤ w1.heap.size := Nat.le_trans hN hb1.size
      clear hf1 hb1 hoff k1 k2
      go_wp2
      go_loopw [8, 28] (fun _ iv wr => ∃ i : Nat, i ≤ l.length ∧ iv = .int .i64 i ∧ ∃ rvr, Hid (RInv w0 w0.heap.size rb vb gb pb B p g cap n L.length c a f (gs ++ (Gr.upto u d k i f l).map (Gr.genN n)) rvr wr) ∧ Hid (RStep B g w1 rv wr rvr)) (fun _ iv _ => l.length - (intOf iv).toNat)
      case atStart => exact ⟨0, Nat.zero_le _, rfl, rv, Lib.hid (by have h := HI1.out; simpa [Gr.upto] using h), Lib.hid (RStep.refl _ _ _ _)⟩
      case round =>
        obtain ⟨i, hi, rfl, rvr, hIr, hSr⟩ := hrel
        by_cases hlt : i < l.length
        · obtain ⟨b, hb⟩ := get_some hlt
          have hbd := Hmem.out b (get_mem hb)
          have hrw := hSr.out.row Hrow.out (fun b' o' e => (Hoff.out b' o' e).resolve_left (fun h => by rw [h] at hlt; simp at hlt))
          obtain ⟨b', o', rfl, hbw', hcell'⟩ := intCells_get? hrw (intsOf_get hb)
          have hNr := hIr.out.bel.size
          have k1 := hIr.out.rot.cell 0
          have P := Lib.hid (Hput.out b hbd wr hIr.out.map)
          have Hc := Lib.hid (Hcnt.out i b hb)
          have Hs := Lib.hid (Hstep.out i b hb)
          have Hlt := Lib.hid hlt
          have h0i : (0 : Int) ≤ (i : Int) := by omega
          have h1i : (i : Int) < (l.length : Int) := by omega
          clear hrw hb hlt
          go_wp2_with fail
          refine P.out.mono ?_
          rintro e w4 ⟨rfl, hm4, hg4⟩
          have HI4 := Lib.hid (hIr.out.turn hm4 hg4 hNr)
          have HS4 := Lib.hid (hSr.out.trans (RStep.of_grown rvr hg4))
          have k4 := HI4.out.pla.cell 0
          clear hm4 hg4 k1 hcell'
          go_wp2_with fail
          refine (Hih.out b hbd _ rvr w4 HI4.out Hc.out).mono ?_
          rintro e w5 ⟨rfl, rv5, hI5, hS5⟩
          have k5 := hI5.rot.cell 0
          have T := Lib.hid (Htake.out b hbd w5 hI5.map)
          have hN5 := hI5.bel.size
          have HI5 := Lib.hid hI5; have HS5 := Lib.hid (HS4.out.trans hS5)
          clear hI5 hS5 k4
          go_wp2_with fail
          refine T.out.mono ?_
          rintro e w6 ⟨rfl, hm6, hg6⟩
          rw [Hback.out b hbd] at hm6
          have HI6 := Lib.hid (HI5.out.turn hm6 hg6 hN5)
          have HS6 := Lib.hid (HS5.out.trans (RStep.of_grown rv5 hg6))
          clear hm6 hg6 k5
          go_wp2
          go_roundw
          case rel => exact ⟨i + 1, Hlt.out, by go_num, rv5, Lib.hid (by rw [Hs.out]; exact HI6.out), HS6⟩
          case measure => have := Hlt.out; simp [intOf] <;> omega
        · obtain rfl : i = l.length := by omega
          clear hlt
          go_wp2
          exact bodyPost_end (v := .tuple #[]) (by first | kernel_rfl | simp [results, Try.f59]) rfl ⟨rfl, rvr, hIr.out, HS1.out.trans hSr.out⟩
end Go.Proofs.Ytpgdmbolckogcaa
