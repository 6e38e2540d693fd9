/-
  What going through all actions keeps in memory. The walk of the program that counts actions. The walk of the program that counts the connected coverings. append of a row to a row of the call's own, as a step of a region that draws. The walks of the model that counts actions and coverings. The walk of the model that counts the connected coverings.
-/
import Derived.Test.YtamgimdjnmcpaaaGreatBase
import Derived.Test.YtamgimdjnmcpaaaGreatSlice
import Derived.Test.YtamgimdjnmcpaaaGreatIntRow
import Derived.Test.YtamgimdjnmcpaaaGreatInts
import Derived.Test.YtamgimdjnmcpaaaGreatOwn
import Derived.Test.YtamgimdjnmcpaaaGreatGrid
import Derived.Test.YtamgimdjnmcpaaaGreatGridWalk
import Derived.Test.YtamgimdjnmcpaaaGreatGridRows
import Derived.Test.YtamgimdjnmcpaaaGreatWord
import Derived.Test.YtamgimdjnmcpaaaGreatClass
import Derived.Test.YtamgimdjnmcpaaaGreatLab
import Derived.Test.YtamgimdjnmcpaaaGreatMap
import Derived.Test.YtamgimdjnmcpaaaGreatMapTopo
import Derived.Test.YtamgimdjnmcpaaaGreatCovD
import Derived.Test.YtamgimdjnmcpaaaGreatCov
import Derived.Test.YtamgimdjnmcpaaaGreatCovA
import Derived.Test.YtamgimdjnmcpaaaGreatCovS
import Derived.Deep.QuietTactic
import Derived.BigQuiet
import Derived.Deep.RegionHeld3
import Derived.StillTailTactics
import Derived.Test.YtamgimdjnmcpaaaGreatAppend
import Derived.Deep.RegionLaw
import Derived.Test.YtamgimdjnmcpaaaGreatUses
import Derived.Test.YtamgimdjnmcpaaaGreatEnds
import Derived.Test.YtamgimdjnmcpaaaGreatIsWord
import Derived.Test.YtamgimdjnmcpaaaGreatGraphA
namespace Go.Proofs.YtamgimdjnmcpaaaGreat
open Go.RowKit

/-- Nothing is written but into the blocks C and G, and new ones. -/
def Keep2 (C G : Nat) (w w' : World) : Prop :=
  w'.os = w.os ∧ w'.tape = w.tape ∧ w'.output = w.output ∧ w.heap.size ≤ w'.heap.size ∧ ∀ k, k < w.heap.size → k ≠ C → k ≠ G → w'.heap[k]? = w.heap[k]?
section
variable {C G : Nat} {w w' w'' : World}
theorem Keep2.refl (C G : Nat) (w : World) : Keep2 C G w w := ⟨rfl, rfl, rfl, Nat.le_refl _, fun _ _ _ _ => rfl⟩
theorem Keep2.trans (h : Keep2 C G w w') (h' : Keep2 C G w' w'') : Keep2 C G w w'' :=
  ⟨h'.1.trans h.1, h'.2.1.trans h.2.1, h'.2.2.1.trans h.2.2.1, Nat.le_trans h.2.2.2.1 h'.2.2.2.1, fun k hk h1 h2 => (h'.2.2.2.2 k (Nat.lt_of_lt_of_le hk h.2.2.2.1) h1 h2).trans (h.2.2.2.2 k hk h1 h2)⟩
theorem Keep2.of_below (h : Below w.heap.size w w') : Keep2 C G w w' := ⟨h.os, h.tape, h.output, h.size, fun k hk _ _ => h.block k hk⟩
theorem Keep2.of_C (h : w.grownBy w' (some C)) : Keep2 C G w w' := ⟨h.os, h.tape, h.output, h.size, fun k hk h1 _ => h.block k hk (fun e => h1 (Option.some.inj e))⟩
theorem Keep2.of_G (h : w.grownBy w' (some G)) : Keep2 C G w w' := ⟨h.os, h.tape, h.output, h.size, fun k hk _ h2 => h.block k hk (fun e => h2 (Option.some.inj e))⟩
theorem Keep2.blk {k : Nat} {t : TypeId} {cs : Array Value} (h : Keep2 C G w w') (hk : Blk w k t cs) (h1 : k ≠ C) (h2 : k ≠ G) : Blk w' k t cs := (h.2.2.2.2 k hk.lt h1 h2).trans hk
theorem Keep2.below {B : Nat} (h : Keep2 C G w w') (h1 : B ≤ C) (h2 : B ≤ G) (hB : B ≤ w.heap.size) : Below B w w' := ⟨h.1, h.2.1, h.2.2.1, h.2.2.2.1, fun k hk => h.2.2.2.2 k (by omega) (by omega) (by omega)⟩
theorem Keep2.rowIn {lo hi : Nat} {t : TypeId} {a : Option Addr} {cs : List Value} (h : Keep2 C G w w') (hr : RowIn w lo hi t a cs) (h1 : C < lo) (h2 : hi ≤ G) : RowIn w' lo hi t a cs := by
  rcases hr with hr | ⟨g, o, all, rfl, h3, h4, hk, hc⟩
  · exact Or.inl hr
  · exact Or.inr ⟨g, o, all, rfl, h3, h4, h.blk hk (by omega) (by omega), hc⟩
theorem Keep2.grown {w0 : World} (hb : Below w0.heap.size w0 w) (h : Keep2 C G w w') (h2 : w0.heap.size ≤ G) : w0.grownBy w' (some C) :=
  ⟨h.1.trans hb.os, h.2.1.trans hb.tape, h.2.2.1.trans hb.output, Nat.le_trans hb.size h.2.2.2.1, fun k hk hn => (h.2.2.2.2 k (Nat.lt_of_lt_of_le hk hb.size) (fun e => hn (congrArg some e)) (by omega)).trans (hb.block k hk)⟩
theorem Keep2.row {a : Option Addr} {cs : List Value} (h : Keep2 C G w w') (hr : RowAt w a cs) (ho : ∀ b o, a = some ⟨b, o, none⟩ → b ≠ C ∧ b ≠ G) : RowAt w' a cs := by
  rcases hr with hr | ⟨b, o, rfl, hlt, hc⟩
  · exact Or.inl hr
  · obtain ⟨h1, h2⟩ := ho b o rfl
    have hb := h.2.2.2.2 b hlt h1 h2
    refine Or.inr ⟨b, o, rfl, Nat.lt_of_lt_of_le hlt h.2.2.2.1, fun i v hv => ?_⟩
    have h2 : w'.cell? ⟨b, o + i, none⟩ = w.cell? ⟨b, o + i, none⟩ := by simp only [World.cell?, hb]
    rw [h2]; exact hc i v hv
end
/-- What lies in memory while the lists are gone through. -/
structure EInv (w1 w : World) (C G K : Nat) (pre : List Hd) (cnt : Nat) : Prop where
  keep : Keep2 C G w1 w
  box : Blk w C 3 #[.int .i64 (cnt : Int)]
  lst : ∃ all, Blk w G 30 all ∧ all.size = K ∧ ∀ (i : Nat) h, pre[i]? = some h → all[i]? = some h.val
section
variable {w1 w w' : World} {C G K cnt cnt' : Nat} {pre : List Hd} {h : Hd}
theorem EInv.next (hI : EInv w1 w C G K pre cnt) (hb : Below w.heap.size w w') : EInv w1 w' C G K pre cnt := by
  obtain ⟨all, h1, h2, h3⟩ := hI.lst
  exact ⟨hI.keep.trans (Keep2.of_below hb), hI.box.below hb hI.box.lt, all, h1.below hb h1.lt, h2, h3⟩
theorem EInv.ne (hI : EInv w1 w C G K pre cnt) : C ≠ G := by
  rintro rfl
  obtain ⟨all, h1, _⟩ := hI.lst
  have h2 := hI.box
  unfold Blk at h1 h2
  rw [h1] at h2
  injection h2 with h2; injection h2 with _ h2 _
  exact absurd h2 (by decide)
theorem EInv.count (hI : EInv w1 w C G K pre cnt) (hb : Blk w' C 3 #[.int .i64 (cnt' : Int)]) (hg : w.grownBy w' (some C)) : EInv w1 w' C G K pre cnt' := by
  obtain ⟨all, h1, h2, h3⟩ := hI.lst
  exact ⟨hI.keep.trans (Keep2.of_C hg), hb, all, h1.grown hg (fun e => hI.ne (Option.some.inj e).symm), h2, h3⟩
theorem EInv.put (hI : EInv w1 w C G K pre cnt) (hk : pre.length < K) : EInv w1 (w.setCell ⟨G, pre.length, none⟩ h.val) C G K (pre ++ [h]) cnt := by
  obtain ⟨all, h1, h2, h3⟩ := hI.lst
  refine ⟨hI.keep.trans (Keep2.of_G (only_setCell (World.grownBy.refl _ _) (Or.inl rfl) _)), hI.box.far (p := ⟨G, pre.length, none⟩) hI.ne _, _, h1.put pre.length h.val, by rw [Array.size_setIfInBounds]; exact h2, fun i x hx => ?_⟩
  rw [Array.getElem?_setIfInBounds]
  rw [List.getElem?_append] at hx
  by_cases hi : i < pre.length
  · rw [if_pos hi] at hx
    rw [if_neg (by omega)]; exact h3 i x hx
  · rw [if_neg hi] at hx
    have : i - pre.length = 0 := by
      have := (List.getElem?_eq_some_iff.1 hx).1; simp at this; omega
    rw [this] at hx
    have e : i = pre.length := by omega
    subst e
    rw [if_pos rfl, if_pos (by omega)]
    exact congrArg (fun y : Option Hd => y.map Hd.val) hx
theorem EInv.pop {h : Hd} (hI : EInv w1 w C G K (pre ++ [h]) cnt) : EInv w1 w C G K pre cnt := by
  obtain ⟨all, h1, h2, h3⟩ := hI.lst
  exact ⟨hI.keep, hI.box, all, h1, h2, fun i x hx => h3 i x (by rw [List.getElem?_append_left (List.getElem?_eq_some_iff.1 hx).1]; exact hx)⟩
theorem EInv.cell (hI : EInv w1 w C G K pre cnt) {i : Nat} (hi : i < K) : ∃ v, w.cell? ⟨G, i, none⟩ = some v ∧ w.frozen? ⟨G, i, none⟩ = false := by
  obtain ⟨all, h1, h2, _⟩ := hI.lst
  exact ⟨_, by rw [h1.cell i]; exact Array.getElem?_eq_getElem (by omega), h1.frozen i⟩
theorem EInv.grid (hI : EInv w1 w C G K pre cnt) (hr : ∀ h ∈ pre, RowAt w h.a (intCells h.l)) : GridAt w (some ⟨G, 0, none⟩) (pre.map Hd.l) := by
  obtain ⟨all, h1, h2, h3⟩ := hI.lst
  refine ⟨pre, rfl, Or.inr ⟨G, 0, rfl, h1.lt, fun i v hv => ?_⟩, hr⟩
  rw [Nat.zero_add, h1.cell i]
  have hi := (List.getElem?_eq_some_iff.1 hv).1
  rw [hdCells_len] at hi
  rw [hdCells_get hi] at hv
  rw [h3 i _ (List.getElem?_eq_getElem hi)]; exact hv
end
namespace Cv
theorem count_step {α : Type} {A : List α} {m i : Nat} {pre : List α} {x : α} {P : List α → Bool} (h : A[i]? = some x) : (extTo A m (i + 1) pre).countP P = (extTo A m i pre).countP P + (ext A m (pre ++ [x])).countP P := by
  rw [extTo_step h, List.countP_append]
theorem whole_le {g : Int} {n : Nat} (hg : g ≤ 2) (hn : n ≤ 3) : wholeN g n ≤ 1296 := by
  refine Nat.le_trans List.countP_le_length ?_
  unfold lists
  rw [ext_len, natRows_size, all_len]
  have hK : gens g ≤ 4 := by unfold gens; omega
  have h0 : Gr.fac n ≤ 6 := Nat.le_trans (Gr.fac_mono hn) (by decide +kernel)
  have h1 : Gr.fac n ^ gens g ≤ 6 ^ gens g := Nat.pow_le_pow_left h0 _
  have h2 : 6 ^ gens g ≤ 6 ^ 4 := Nat.pow_le_pow_right (by decide) hK
  have h3 : (6 : Nat) ^ 4 = 1296 := by decide
  omega
theorem count_le {α : Type} (A : List α) (m i : Nat) (pre : List α) (P : List α → Bool) : (extTo A m i pre).countP P ≤ A.length ^ (m + 1) := Nat.le_trans List.countP_le_length (extTo_len A m i pre)
end Cv
end Go.Proofs.YtamgimdjnmcpaaaGreat
namespace Go.Proofs.YtamgimdjnmcpaaaGreat
open Go.RowKit

set_option maxRecDepth 10000 in
theorem impl_visitA (C G K cnt : Nat) (L : List (List Int)) (w : World) (_ : L.length = K) (hk : Blk w C 3 #[.int .i64 (cnt : Int)]) (_ : GridAt w (some ⟨G, 0, none⟩) L) (_ : Cv.Perms L) (hc : cnt ≤ 2000000000) :
    Calls Tryz.prog 48 #[.slice (some ⟨G, 0, none⟩) K K, .pointer (some ⟨C, 0, none⟩)] w fun e w' => e = .returned (.tuple #[]) ∧ Blk w' C 3 #[.int .i64 ((cnt + 1 : Nat) : Int)] ∧ w.grownBy w' (some C) := by
  have k1 := hk.cell 0
  have k2 := hk.frozen 0
  have hput := hk.put 0 (.int .i64 ((cnt : Int) + 1))
  have k1' : w.cell? ⟨C, 0, none⟩ = some (.int .i64 (cnt : Int)) := k1
  have Hput := Lib.hid hput
  have c0 : (0 : Int) ≤ (cnt : Int) := by omega
  have c1 : (cnt : Int) ≤ 2000000000 := by omega
  clear hput k1 hk
  go_enter Tryz.func48, Tryz.ntmps48
  go_wp2
  exact bodyPost_end (v := .tuple #[]) (by first | kernel_rfl | simp [results, Tryz.f48]) rfl ⟨rfl, Hput.out, only_setCell (World.grownBy.refl _ _) (Or.inl rfl) _⟩

set_option maxRecDepth 10000 in
set_option maxHeartbeats 4000000 in
theorem impl_chooseA (w1 : World) (lb cb pb gb vb C G K : Nat) (g : Int) (ch : List Hd) (ca : Option Addr) (cc : Nat)
    (hlb : ∀ W, Keep2 C G w1 W → W.cell? ⟨lb, 0, none⟩ = some (.slice (some ⟨G, 0, none⟩) K K))
    (hcb : ∀ W, Keep2 C G w1 W → W.cell? ⟨cb, 0, none⟩ = some (.slice ca ch.length cc))
    (hpb : ∀ W, Keep2 C G w1 W → W.cell? ⟨pb, 0, none⟩ = some (.func (.func 91) #[] #[.pointer (some ⟨lb, 0, none⟩), .pointer (some ⟨cb, 0, none⟩), .pointer (some ⟨pb, 0, none⟩), .pointer (some ⟨gb, 0, none⟩), .pointer (some ⟨vb, 0, none⟩)]))
    (hgb : ∀ W, Keep2 C G w1 W → W.cell? ⟨gb, 0, none⟩ = some (.int .i64 g))
    (hvb : ∀ W, Keep2 C G w1 W → W.cell? ⟨vb, 0, none⟩ = some (.func (.func 48) #[] #[.pointer (some ⟨C, 0, none⟩)]))
    (hch : ∀ W, Keep2 C G w1 W → RowAt W ca (hdCells ch) ∧ ∀ h ∈ ch, RowAt W h.a (intCells h.l))
    (hlen : ∀ h ∈ ch, h.l.length ≤ 5) (hK : K ≤ 4) (hcl : ch.length ≤ 120) :
    ∀ (m k : Nat) (zk : Int) (pre : List Hd) (cnt : Nat) (w : World), zk = (k : Int) → k + m = K → pre.length = k → (∀ h ∈ pre, h ∈ ch) → EInv w1 w C G K pre cnt → cnt + ch.length ^ m ≤ 1000000000 →
      Calls Tryz.prog 91 #[.int .i64 zk, .pointer (some ⟨lb, 0, none⟩), .pointer (some ⟨cb, 0, none⟩), .pointer (some ⟨pb, 0, none⟩), .pointer (some ⟨gb, 0, none⟩), .pointer (some ⟨vb, 0, none⟩)] w fun e w' => e = .returned (.tuple #[]) ∧ EInv w1 w' C G K pre (cnt + (Cv.ext (ch.map Hd.l) m (pre.map Hd.l)).countP fun L => decide (Cv.Act g L)) := by
  have Hlb := Lib.hid hlb; have Hcb := Lib.hid hcb; have Hpb := Lib.hid hpb; have Hgb := Lib.hid hgb; have Hvb := Lib.hid hvb; have Hch := Lib.hid hch; have Hlen := Lib.hid hlen
  clear hlb hcb hpb hgb hvb hch hlen
  intro m
  induction m with
  | zero =>
    intro k zk pre cnt w hzk hkm hpl hpre hI hcnt
    subst hzk
    obtain rfl : k = K := by omega
    have k1 := Hlb.out w hI.keep
    have k2 := Hgb.out w hI.keep
    have hA := impl_IsAction g (some ⟨G, 0, none⟩) k (pre.map Hd.l) w (hI.grid fun h hh => (Hch.out w hI.keep).2 h (hpre h hh)) (fun p hp => by
      obtain ⟨h, hh, rfl⟩ := List.mem_map.1 hp
      exact Nat.le_trans (Hlen.out h (hpre h hh)) (by decide)) (by rw [List.length_map]; omega)
    rw [List.length_map, hpl] at hA
    have hcnt1 : cnt + 1 ≤ 1000000000 := by simpa using hcnt
    have hval : (Cv.ext (ch.map Hd.l) 0 (pre.map Hd.l)).countP (fun L => decide (Cv.Act g L)) = if Cv.Act g (pre.map Hd.l) then 1 else 0 := by
      show List.countP _ [pre.map Hd.l] = _
      rw [List.countP_cons, List.countP_nil]
      simp
    have hv := fun W (h : EInv w1 W C G k pre cnt) (hrows : GridAt W (some ⟨G, 0, none⟩) (pre.map Hd.l)) (hact : Cv.Act g (pre.map Hd.l)) => impl_visitA C G k cnt (pre.map Hd.l) W (by rw [List.length_map]; exact hpl) h.box hrows hact.2.1 (by omega)
    have hgr := fun W (h : EInv w1 W C G k pre cnt) => h.grid fun x hh => (Hch.out W h.keep).2 x (hpre x hh)
    have Hval := Lib.hid hval; have Hv := Lib.hid hv; have HI := Lib.hid hI; have Hgr := Lib.hid hgr
    by_cases hact : Cv.Act g (pre.map Hd.l)
    · rw [decide_eq_true hact] at hA
      have HA := Lib.hid hA; have Hact := Lib.hid hact
      clear hA hact hval hv hI hcnt hpre hkm hgr
      go_enter Tryz.func91, Tryz.ntmps91
      go_wp2_with fail
      refine HA.out.mono ?_
      rintro e w2 ⟨rfl, hb2⟩
      have hI2 := HI.out.next hb2
      have HI2 := Lib.hid hI2
      have k3 := Hvb.out w2 hI2.keep
      have k4 := Hlb.out w2 hI2.keep
      have Hvv := Lib.hid (Hv.out w2 hI2 (Hgr.out w2 hI2) Hact.out)
      clear hb2 hI2 k1 k2
      go_wp2_with fail
      refine Hvv.out.mono ?_
      rintro e w3 ⟨rfl, hk3, hg3⟩
      have HI3 := Lib.hid (HI2.out.count hk3 hg3)
      clear hk3 hg3 k3 k4
      go_wp2
      exact bodyPost_end (v := .tuple #[]) (by first | kernel_rfl | simp [results, Tryz.f91]) rfl ⟨rfl, by rw [Hval.out]; have := HI3.out; rw [if_pos Hact.out]; exact this⟩
    · rw [decide_eq_false hact] at hA
      have HA := Lib.hid hA; have Hact := Lib.hid hact
      clear hA hact hval hv hI hcnt hpre hkm hgr
      go_enter Tryz.func91, Tryz.ntmps91
      go_wp2_with fail
      refine HA.out.mono ?_
      rintro e w2 ⟨rfl, hb2⟩
      have HI2 := Lib.hid (HI.out.next hb2)
      clear hb2 k1 k2
      go_wp2
      exact bodyPost_end (v := .tuple #[]) (by first | kernel_rfl | simp [results, Tryz.f91]) rfl ⟨rfl, by rw [Hval.out, if_neg (fun h => Hact.out h)]; exact HI2.out⟩
  | succ m ih =>
    intro k zk pre cnt w hzk hkm hpl hpre hI hcnt
    subst hzk
    have k1 := Hlb.out w hI.keep
    have k2 := Hcb.out w hI.keep
    have hlt0 : decide (k < K) = true := decide_eq_true (by omega)
    have hz0 : (0 : Int) ≤ (k : Int) := by omega
    have hz4 : (k : Int) ≤ 4 := by omega
    have hend := Cv.extTo_end (ch.map Hd.l) m (pre.map Hd.l)
    rw [← hend, List.length_map]
    have hstep := fun i (h : Hd) (hh : ch[i]? = some h) => Cv.count_step (A := ch.map Hd.l) (m := m) (pre := pre.map Hd.l) (P := fun L => decide (Cv.Act g L)) (show (ch.map Hd.l)[i]? = some h.l by rw [List.getElem?_map, hh]; rfl)
    have hih := fun i (h : Hd) (hh : ch[i]? = some h) W (hw : EInv w1 W C G K (pre ++ [h]) (cnt + (Cv.extTo (ch.map Hd.l) m i (pre.map Hd.l)).countP fun L => decide (Cv.Act g L))) => ih (k + 1) ((k : Int) + 1) (pre ++ [h]) _ W (by omega) (by omega) (by rw [List.length_append, hpl]; rfl) (fun x hx => by
      rcases List.mem_append.1 hx with hx | hx
      · exact hpre x hx
      · rw [List.mem_singleton.1 hx]; exact get_mem hh) hw (by
      have h1 : (Cv.extTo (ch.map Hd.l) m i (pre.map Hd.l)).countP (fun L => decide (Cv.Act g L)) ≤ i * ch.length ^ m := by
        refine Nat.le_trans List.countP_le_length ?_
        unfold Cv.extTo
        rw [List.length_flatMap, Cv.sum_const (m := ch.length ^ m) fun x _ => by rw [Cv.ext_len, List.length_map]]
        exact Nat.mul_le_mul (by rw [List.length_take]; omega) (Nat.le_refl _)
      have h2 := (List.getElem?_eq_some_iff.1 hh).1
      have h3 : (i + 1) * ch.length ^ m ≤ ch.length * ch.length ^ m := Nat.mul_le_mul (by omega) (Nat.le_refl _)
      rw [Nat.pow_succ, Nat.mul_comm] at hcnt
      rw [Nat.add_mul] at h3
      omega)
    have hput := fun W c (h : Hd) (hw : EInv w1 W C G K pre c) => hw.put (h := h) (by rw [hpl]; omega)
    rw [hpl] at hput
    have hmap : ∀ h : Hd, (pre ++ [h]).map Hd.l = pre.map Hd.l ++ [h.l] := fun h => by simp
    have Hstep := Lib.hid hstep; have Hih := Lib.hid hih; have Hput := Lib.hid hput; have HI := Lib.hid hI; have Hmap := Lib.hid hmap
    have hkK : k < K := by omega
    have hkK2 : (k : Int) < (K : Int) := by omega
    clear hstep hih ih hput hend hI hcnt hpre hmap hpl
    go_enter Tryz.func91, Tryz.ntmps91
    go_wp2
    clear k1 k2
    go_loopw [8, 15] (fun _ iv wr => ∃ i : Nat, i ≤ ch.length ∧ iv = .int .i64 i ∧ Hid (EInv w1 wr C G K pre (cnt + (Cv.extTo (ch.map Hd.l) m i (pre.map Hd.l)).countP fun L => decide (Cv.Act g L)))) (fun _ iv _ => ch.length - (intOf iv).toNat)
    case atStart => exact ⟨0, Nat.zero_le _, rfl, Lib.hid (by rw [Cv.extTo_zero]; exact HI.out)⟩
    case round =>
      obtain ⟨i, hi, rfl, hIr⟩ := hrel
      by_cases hlt : i < ch.length
      · obtain ⟨h, hh⟩ := get_some hlt
        have hkeep := hIr.out.keep
        obtain ⟨b, o, rfl, _, hc⟩ := (Hch.out wr hkeep).1.at (i := i) (by rw [hdCells_len]; exact hlt)
        have hcell : wr.cell? ⟨b, o + i, none⟩ = some (.slice h.a h.l.length h.c) := by
          obtain ⟨h1, rfl⟩ := List.getElem?_eq_some_iff.1 hh
          exact hc i _ (hdCells_get h1)
        have d1 := Hlb.out wr hkeep
        obtain ⟨v0, hdst, hfz⟩ := hIr.out.cell hkK
        have hp := Hput.out wr _ h hIr.out
        have hp2 := Hih.out i h hh _ hp
        have hst := Hstep.out i h hh
        have hval : Value.slice h.a h.l.length h.c = h.val := rfl
        have d2 := Hpb.out _ hp.keep
        rw [← hval] at d2 hp2 hp
        have i0 : (0 : Int) ≤ (i : Int) := by omega
        have i1 : (i : Int) < (ch.length : Int) := by omega
        have Hp2 := Lib.hid hp2; have Hst := Lib.hid hst
        rw [Hmap.out] at Hp2
        clear hp hp2 hst hc hh hkeep hval
        generalize h.l.length = hln at *
        go_wp2_with fail
        refine Hp2.out.mono ?_
        rintro e w3 ⟨rfl, hI3⟩
        have HI3 := Lib.hid hI3.pop
        clear hI3 d1 d2
        go_wp2
        go_roundw
        case rel => exact ⟨i + 1, by omega, by go_num, Lib.hid (by rw [Hst.out, ← Nat.add_assoc]; exact HI3.out)⟩
        case measure => simp [intOf]; omega
      · obtain rfl : i = ch.length := by omega
        go_wp2
        exact bodyPost_end (v := .tuple #[]) (by first | kernel_rfl | simp [results, Tryz.f91]) rfl ⟨rfl, hIr.out⟩
set_option maxRecDepth 10000 in
set_option maxHeartbeats 4000000 in
theorem impl_eachA (g : Int) (n C : Nat) (w : World) (hg : 0 ≤ g ∧ g ≤ 2) (hn : 1 ≤ n ∧ n ≤ 3) (hk : Blk w C 3 #[.int .i64 0]) :
    Calls Tryz.prog 47 #[.int .i64 g, .int .i64 (n : Int), .func (.func 48) #[] #[.pointer (some ⟨C, 0, none⟩)]] w fun e w' => e = .returned (.tuple #[]) ∧ Blk w' C 3 #[.int .i64 ((Cv.actsN g n : Nat) : Int)] ∧ w.grownBy w' (some C) := by
  have hper := fun W => impl_allPermutations n W (by omega)
  have hcg := fun W => impl_countGenerators g W hg
  have hK : (2 * max 1 g) = ((Cv.gens g : Nat) : Int) := by unfold Cv.gens; omega
  rw [hK] at hcg
  have hK4 : Cv.gens g ≤ 4 := by unfold Cv.gens; omega
  have hmk := fun W => mk_rows (Cv.gens g) (by omega) W
  have hcnt : Cv.actsN g n = (Cv.ext (Mp.natRows (Cv.all n)) (Cv.gens g) []).countP fun L => decide (Cv.Act g L) := rfl
  have hAl : (Mp.natRows (Cv.all n)).length ≤ 120 := by rw [Cv.natRows_size]; exact Cv.all_few (by omega)
  have hA5 : ∀ r ∈ Mp.natRows (Cv.all n), r.length ≤ 5 := fun r hr => by have := (Cv.all_isP hr).1; omega
  have hA6 : (Mp.natRows (Cv.all n)).length ≤ 6 := by rw [Cv.natRows_size, Cv.all_len]; exact Nat.le_trans (Gr.fac_mono (show n ≤ 3 by omega)) (by decide +kernel)
  generalize Mp.natRows (Cv.all n) = A at *
  generalize Cv.gens g = K at *
  obtain ⟨V, hV⟩ : ∃ V, Cv.actsN g n = V := ⟨_, rfl⟩
  rw [hV] at hcnt ⊢
  have Hk := Lib.hid hk; have Hcnt := Lib.hid hcnt; have Hper := Lib.hid hper; have Hcg := Lib.hid hcg; have Hmk := Lib.hid hmk; have HA5 := Lib.hid hA5; have HV := Lib.hid hV
  have hbA : Below w.heap.size w ((w.alloc (.cells #[.int .i64 g] 3)).alloc (.cells #[.func (.func 48) #[] #[.pointer (some ⟨C, 0, none⟩)]] 65)) := ((Below.refl _ _).alloc (Nat.le_refl _) _).alloc (by simp) _
  have hg1 : Blk ((w.alloc (.cells #[.int .i64 g] 3)).alloc (.cells #[.func (.func 48) #[] #[.pointer (some ⟨C, 0, none⟩)]] 65)) w.heap.size 3 #[.int .i64 g] := (Blk.new w _ _).alloc _
  have hv1 : Blk ((w.alloc (.cells #[.int .i64 g] 3)).alloc (.cells #[.func (.func 48) #[] #[.pointer (some ⟨C, 0, none⟩)]] 65)) (w.heap.size + 1) 65 #[.func (.func 48) #[] #[.pointer (some ⟨C, 0, none⟩)]] := by
    have := Blk.new (w.alloc (.cells #[.int .i64 g] 3)) 65 #[.func (.func 48) #[] #[.pointer (some ⟨C, 0, none⟩)]]
    simpa using this
  have HbA := Lib.hid hbA; have Hg1 := Lib.hid hg1; have Hv1 := Lib.hid hv1
  clear hk hcnt hper hcg hmk hK hbA hg1 hv1 hA5 hV
  go_enter Tryz.func47, Tryz.ntmps47
  go_wp2_with fail
  refine (Hper.out _).mono ?_
  rintro e w2 ⟨ca, cc, rfl, hcl, hcm, hgr2, hb2⟩
  have Hb2 := Lib.hid (HbA.out.trans (hb2.mono HbA.out.size))
  have hg2 := Hg1.out.below hb2 Hg1.out.lt
  have Hg2 := Lib.hid hg2
  have Hv2 := Lib.hid (Hv1.out.below hb2 Hv1.out.lt)
  have hlo : w.heap.size ≤ ((w.alloc (.cells #[.int .i64 g] 3)).alloc (.cells #[.func (.func 48) #[] #[.pointer (some ⟨C, 0, none⟩)]] 65)).heap.size := HbA.out.size
  have Hgr2 := Lib.hid (hgr2.mono hlo (Nat.le_refl _))
  have hw2 : w.heap.size + 2 ≤ w2.heap.size := by have := hb2.size; simp at this; omega
  -- the choices in their box
  have hb3 : Below w2.heap.size w2 (w2.alloc (.cells #[.slice ca A.length cc] 24)) := (Below.refl _ _).alloc (Nat.le_refl _) _
  have hg3 := (hg2.below hb3 hg2.lt).cell 0
  have Hb3 := Lib.hid hb3
  clear hgr2 hb2 hg2 hb3 hlo
  have hg3' : (w2.alloc (.cells #[.slice ca A.length cc] 24)).cell? ⟨w.heap.size, 0, none⟩ = some (.int .i64 g) := hg3
  clear hg3
  go_wp2_with fail
  refine (Hcg.out _).mono ?_
  rintro e w5 ⟨rfl, hb5⟩
  have Hb5 := Lib.hid hb5
  have hmk5 := Hmk.out w5
  clear hb5 hg3'
  go_wp2_with fail
  have hW8 : ∃ W8, W8 = ((w5.alloc (.cells (hdCells (List.replicate K ⟨none, 0, []⟩)).toArray 30)).alloc (.cells #[.slice (some ⟨w5.heap.size, 0, none⟩) K K] 24)).alloc (.cells #[Value.nilFunc] 92) := ⟨_, rfl⟩
  obtain ⟨W8, hW8⟩ := hW8
  rw [← hW8]
  have hb8 : Below w5.heap.size w5 W8 := by rw [hW8]; exact (((Below.refl _ _).alloc (Nat.le_refl _) _).alloc (by simp) _).alloc (by simp; omega) _
  have hG8 : Blk W8 w5.heap.size 30 (hdCells (List.replicate K ⟨none, 0, []⟩)).toArray := by rw [hW8]; exact ((Blk.new w5 _ _).alloc _).alloc _
  have hL8 : Blk W8 (w5.heap.size + 1) 24 #[.slice (some ⟨w5.heap.size, 0, none⟩) K K] := by
    rw [hW8]
    have := (Blk.new (w5.alloc (.cells (hdCells (List.replicate K ⟨none, 0, []⟩)).toArray 30)) 24 #[.slice (some ⟨w5.heap.size, 0, none⟩) K K]).alloc (.cells #[Value.nilFunc] 92)
    simpa using this
  have hP8 : Blk W8 (w5.heap.size + 1 + 1) 92 #[Value.nilFunc] := by
    rw [hW8]
    have := Blk.new ((w5.alloc (.cells (hdCells (List.replicate K ⟨none, 0, []⟩)).toArray 30)).alloc (.cells #[.slice (some ⟨w5.heap.size, 0, none⟩) K K] 24)) 92 #[Value.nilFunc]
    simpa using this
  clear hW8 hmk5
  have hb9 := fun v => hb8.setCell (p := ⟨w5.heap.size + 1 + 1, 0, none⟩) (by simp only []; omega) v
  have hG9 := fun v => hG8.far (p := ⟨w5.heap.size + 1 + 1, 0, none⟩) (by simp; omega) v
  have hL9 := fun v => hL8.far (p := ⟨w5.heap.size + 1 + 1, 0, none⟩) (by simp) v
  have hP9 := fun v => hP8.put 0 v
  have k8 := hP8.cell 0
  have k8' : W8.cell? ⟨w5.heap.size + 1 + 1, 0, none⟩ = some Value.nilFunc := k8
  have f8 := hP8.frozen 0
  have hst := fun (c : Array Value) => run_store Tryz.prog W8 ⟨w5.heap.size + 1 + 1, 0, none⟩ (.func (.func 91) #[] c) .plain rfl
  simp only [stored, k8', f8, Bool.false_eq_true, if_false] at hst
  have Hb9 := Lib.hid hb9; have HG9 := Lib.hid hG9; have HL9 := Lib.hid hL9; have HP9 := Lib.hid hP9
  clear hb8 hG8 hL8 hP8 k8 hb9 hG9 hL9 hP9
  rw [hst]
  obtain ⟨CLO, hCLO⟩ : ∃ v, v = Value.func (.func 91) #[] #[.pointer (some ⟨w5.heap.size + 1, 0, none⟩), .pointer (some ⟨w2.heap.size, 0, none⟩), .pointer (some ⟨w5.heap.size + 1 + 1, 0, none⟩), .pointer (some ⟨w.heap.size, 0, none⟩), .pointer (some ⟨w.heap.size + 1, 0, none⟩)] := ⟨_, rfl⟩
  have hP9 := HP9.out CLO
  have hL9 := HL9.out CLO
  have hG9 := HG9.out CLO
  have hb9 := Hb9.out CLO
  have k9 := hP9.cell 0
  clear hst k8' f8
  -- the world in which choose begins
  have hbw : Below w.heap.size w w5 := (Hb2.out.trans (Hb3.out.mono Hb2.out.size)).trans (Hb5.out.mono (by have := Hb2.out.size; have := Hb3.out.size; omega))
  have hw23 : w2.heap.size < w5.heap.size := by have := Hb5.out.size; simp at this; omega
  have hbx : Below w.heap.size w (W8.setCell ⟨w5.heap.size + 1 + 1, 0, none⟩ CLO) := hbw.trans (hb9.mono hbw.size)
  have hCw := Hk.out.lt
  have hC9 := Hk.out.below hbx hCw
  have hb39 : Below (w2.alloc (.cells #[.slice ca A.length cc] 24)).heap.size (w2.alloc (.cells #[.slice ca A.length cc] 24)) (W8.setCell ⟨w5.heap.size + 1 + 1, 0, none⟩ CLO) := Hb5.out.trans (hb9.mono Hb5.out.size)
  have hb29 := Hb3.out.trans (hb39.mono Hb3.out.size)
  have hg9 := Hg2.out.below hb29 Hg2.out.lt
  have hv9 := Hv2.out.below hb29 Hv2.out.lt
  have hc9 := (Blk.new w2 24 #[.slice ca A.length cc]).below hb39 (Blk.new w2 _ _).lt
  obtain ⟨ch, hmap, hrow, hrows, _⟩ := Hgr2.out.below hb29
  subst hmap
  rw [List.length_map] at hc9 hA6
  have hcl5 : ∀ h ∈ ch, h.l.length ≤ 5 := fun h hh => HA5.out h.l (List.mem_map_of_mem hh)
  have hpow : 0 + ch.length ^ K ≤ 1000000000 := by
    have h1 : ch.length ^ K ≤ 6 ^ K := Nat.pow_le_pow_left hA6 K
    have h2 : 6 ^ K ≤ 6 ^ 4 := Nat.pow_le_pow_right (by decide) hK4
    have h3 : (6 : Nat) ^ 4 = 1296 := by decide
    omega
  have hEI : EInv (W8.setCell ⟨w5.heap.size + 1 + 1, 0, none⟩ CLO) (W8.setCell ⟨w5.heap.size + 1 + 1, 0, none⟩ CLO) C w5.heap.size K [] 0 := ⟨Keep2.refl _ _ _, hC9, _, hG9, by simp [hdCells], fun i h hh => by simp at hh⟩
  have hwz := Hb2.out.size
  have hch := impl_chooseA (W8.setCell ⟨w5.heap.size + 1 + 1, 0, none⟩ CLO) (w5.heap.size + 1) w2.heap.size (w5.heap.size + 1 + 1) w.heap.size (w.heap.size + 1) C w5.heap.size K g ch ca cc
    (fun W h => (h.blk hL9 (by omega) (by omega)).cell 0) (fun W h => (h.blk hc9 (by omega) (by omega)).cell 0)
    (fun W h => by have := (h.blk hP9 (by omega) (by omega)).cell 0; rw [hCLO] at this; exact this)
    (fun W h => (h.blk hg9 (by omega) (by omega)).cell 0) (fun W h => (h.blk hv9 (by omega) (by omega)).cell 0)
    (fun W h => ⟨(h.rowIn hrow hCw (by omega)).row, fun x hx => (h.rowIn (hrows x hx) hCw (by omega)).row⟩)
    hcl5 hK4 (by omega) K 0 0 [] 0 _ rfl (by omega) rfl (by simp) hEI hpow
  have k9' : (W8.setCell ⟨w5.heap.size + 1 + 1, 0, none⟩ CLO).cell? ⟨w5.heap.size + 1 + 1, 0, none⟩ = some CLO := k9
  have hgw := fun W (h : Keep2 C w5.heap.size (W8.setCell ⟨w5.heap.size + 1 + 1, 0, none⟩ CLO) W) => h.grown hbx (by omega)
  clear hP9 hL9 hG9 hb9 k9 hbw hw23 hbx hC9 hg9 hv9 hc9 hrow hrows hb39 hb29 hEI hpow hcl5
  rw [← hCLO]
  generalize W8.setCell ⟨w5.heap.size + 1 + 1, 0, none⟩ CLO = W9 at *
  subst hCLO
  have Hch := Lib.hid hch; have Hgw := Lib.hid hgw
  clear hch hgw
  simp only [Result.andThen]
  go_wp2_with fail
  refine Hch.out.mono ?_
  rintro e w10 ⟨rfl, hI⟩
  have hbox := hI.box
  rw [Nat.zero_add] at hbox
  have Hbox := Lib.hid hbox; have Hend := Lib.hid (Hgw.out w10 hI.keep)
  clear hbox hI
  go_wp2
  exact bodyPost_end (v := .tuple #[]) (by first | kernel_rfl | simp [results, Tryz.f47]) rfl ⟨rfl, by rw [Hcnt.out]; exact Hbox.out, Hend.out⟩

set_option maxRecDepth 10000 in
theorem impl_isCounted (g n : Int) (w : World) : Calls Tryz.prog 46 #[.int .i64 g, .int .i64 n] w fun e w' => e = .returned (.bool (decide (Cv.Counted g n))) ∧ w' = w := by
  have hA := impl_isActionGroup g w
  have hd : decide (Cv.Counted g n) = (decide (0 ≤ g ∧ g ≤ 2) && (decide (1 ≤ n) && decide (n ≤ 3))) := by
    rw [Bool.eq_iff_iff]
    simp only [Bool.and_eq_true, decide_eq_true_eq]
    exact Iff.rfl
  rw [hd]
  generalize decide (0 ≤ g ∧ g ≤ 2) = b at *
  generalize d1 : decide (1 ≤ n) = c1 at *
  generalize d2 : decide (n ≤ 3) = c2 at *
  have HA := Lib.hid hA
  clear hA hd
  cases b <;> cases c1 <;> cases c2 <;>
  · go_enter Tryz.func46, Tryz.ntmps46
    go_wp2_with fail
    refine HA.out.mono ?_
    rintro e w1 ⟨rfl, hw1⟩
    rw [hw1]; clear hw1 w1
    go_wp2
    go_ret
    exact ⟨rfl, rfl⟩
set_option maxRecDepth 10000 in
theorem impl_CountActions (g n : Int) (w : World) : Calls Tryz.prog 12 #[.int .i64 g, .int .i64 n] w fun e w' => e = .returned (.int .i64 (Cv.acts g n)) ∧ Below w.heap.size w w' := by
  have hC := impl_isCounted g n w
  by_cases h : Cv.Counted g n
  · rw [decide_eq_true h] at hC
    rw [show Cv.acts g n = (Cv.actsN g n.toNat : Int) from if_pos h]
    obtain ⟨hg, hn1, hn3⟩ := h
    obtain ⟨m, rfl⟩ := Int.eq_ofNat_of_zero_le (show 0 ≤ n by omega)
    rw [Int.toNat_natCast]
    have hE := impl_eachA g m w.heap.size (w.alloc (.cells #[.int .i64 0] 3)) hg ⟨by omega, by omega⟩ (Blk.new w _ _)
    have hbw : Below w.heap.size w (w.alloc (.cells #[.int .i64 0] 3)) := (Below.refl _ _).alloc (Nat.le_refl _) _
    generalize Cv.actsN g m = V at *
    have HC := Lib.hid hC; have HE := Lib.hid hE; have Hbw := Lib.hid hbw
    clear hC hE hbw hg hn1 hn3
    go_enter Tryz.func12, Tryz.ntmps12
    go_wp2_with fail
    refine HC.out.mono ?_
    rintro e w1 ⟨rfl, hw1⟩
    rw [hw1]; clear hw1 w1
    go_wp2_with fail
    refine HE.out.mono ?_
    rintro e w2 ⟨rfl, hk2, hg2⟩
    have Hb2 := Lib.hid (below_of_only Hbw.out hg2 (Nat.le_refl _))
    have k2 : w2.cell? ⟨w.heap.size, 0, none⟩ = some (.int .i64 (V : Int)) := hk2.cell 0
    clear hk2 hg2
    go_wp2
    go_ret
    exact ⟨rfl, Hb2.out⟩
  · rw [decide_eq_false h] at hC
    rw [show Cv.acts g n = -1 from if_neg h]
    have HC := Lib.hid hC
    clear h hC
    go_enter Tryz.func12, Tryz.ntmps12
    go_wp2_with fail
    refine HC.out.mono ?_
    rintro e w1 ⟨rfl, hw1⟩
    rw [hw1]; clear hw1 w1
    go_wp2
    go_ret
    exact ⟨rfl, Below.refl _ _⟩
end Go.Proofs.YtamgimdjnmcpaaaGreat
namespace Go.Proofs.YtamgimdjnmcpaaaGreat
open Go.RowKit

set_option maxRecDepth 10000 in
theorem impl_visitB (C G K cnt : Nat) (L : List (List Int)) (w : World) (hLK : L.length = K) (hk : Blk w C 3 #[.int .i64 (cnt : Int)]) (hL : GridAt w (some ⟨G, 0, none⟩) L) (hP : Cv.Perms L) (hc : cnt ≤ 2000000000) :
    Calls Tryz.prog 62 #[.slice (some ⟨G, 0, none⟩) K K, .pointer (some ⟨C, 0, none⟩)] w fun e w' => e = .returned (.tuple #[]) ∧ Blk w' C 3 #[.int .i64 ((cnt + (if (Cv.partsN L).length = 1 then 1 else 0) : Nat) : Int)] ∧ w.grownBy w' (some C) := by
  have hS := impl_SheetParts (some ⟨G, 0, none⟩) K L w hL (fun p hp => by have := (hP.1 p hp).1; have := hP.2.2.2.2; omega) (by have := hP.2.2.1; omega)
  rw [hLK] at hS
  have hpl : (Cv.parts L).length = (Cv.partsN L).length := by unfold Cv.parts; rw [if_pos hP, Cv.natRows_size]
  have hgr : ∀ w', Below w.heap.size w w' → w.grownBy w' (some C) := fun w' h => ⟨h.os, h.tape, h.output, h.size, fun k hk _ => h.block k hk⟩
  have c0 : (0 : Int) ≤ (cnt : Int) := by omega
  have c1 : (cnt : Int) ≤ 2000000000 := by omega
  have Hk := Lib.hid hk; have HS := Lib.hid hS; have Hpl := Lib.hid hpl; have Hgr := Lib.hid hgr
  clear hL hP hk hS hc hLK hgr
  generalize (Cv.partsN L).length = P at *
  by_cases hp : P = 1
  · subst hp
    rw [if_pos rfl]
    go_enter Tryz.func62, Tryz.ntmps62
    go_wp2_with fail
    refine HS.out.mono ?_
    rintro e w2 ⟨ca, cc, rfl, _, _, _, hb2⟩
    rw [hpl]
    have hk2 := Hk.out.below hb2 Hk.out.lt
    have k1 : w2.cell? ⟨C, 0, none⟩ = some (.int .i64 (cnt : Int)) := hk2.cell 0
    have k2 := hk2.frozen 0
    have Hput := Lib.hid (hk2.put 0 (.int .i64 ((cnt : Int) + 1)))
    have Hg := Lib.hid (only_setCell (p := ⟨C, 0, none⟩) (Hgr.out _ hb2) (Or.inl rfl) (.int .i64 ((cnt : Int) + 1)))
    clear hk2 hb2 hpl
    go_wp2
    exact bodyPost_end (v := .tuple #[]) (by first | kernel_rfl | simp [results, Tryz.f62]) rfl ⟨rfl, Hput.out, Hg.out⟩
  · rw [if_neg hp]
    have d0 : (((P : Nat) : Int) == 1) = false := beq_eq_false_iff_ne.2 (by omega)
    clear hp
    go_enter Tryz.func62, Tryz.ntmps62
    go_wp2_with fail
    refine HS.out.mono ?_
    rintro e w2 ⟨ca, cc, rfl, _, _, _, hb2⟩
    rw [hpl]
    have Hk2 := Lib.hid (Hk.out.below hb2 Hk.out.lt)
    have Hg := Lib.hid (Hgr.out _ hb2)
    clear hb2 hpl
    go_wp2
    exact bodyPost_end (v := .tuple #[]) (by first | kernel_rfl | simp [results, Tryz.f62]) rfl ⟨rfl, Hk2.out, Hg.out⟩

set_option maxRecDepth 10000 in
set_option maxHeartbeats 4000000 in
theorem impl_chooseB (w1 : World) (lb cb pb gb vb C G K : Nat) (g : Int) (ch : List Hd) (ca : Option Addr) (cc : Nat)
    (hlb : ∀ W, Keep2 C G w1 W → W.cell? ⟨lb, 0, none⟩ = some (.slice (some ⟨G, 0, none⟩) K K))
    (hcb : ∀ W, Keep2 C G w1 W → W.cell? ⟨cb, 0, none⟩ = some (.slice ca ch.length cc))
    (hpb : ∀ W, Keep2 C G w1 W → W.cell? ⟨pb, 0, none⟩ = some (.func (.func 91) #[] #[.pointer (some ⟨lb, 0, none⟩), .pointer (some ⟨cb, 0, none⟩), .pointer (some ⟨pb, 0, none⟩), .pointer (some ⟨gb, 0, none⟩), .pointer (some ⟨vb, 0, none⟩)]))
    (hgb : ∀ W, Keep2 C G w1 W → W.cell? ⟨gb, 0, none⟩ = some (.int .i64 g))
    (hvb : ∀ W, Keep2 C G w1 W → W.cell? ⟨vb, 0, none⟩ = some (.func (.func 62) #[] #[.pointer (some ⟨C, 0, none⟩)]))
    (hch : ∀ W, Keep2 C G w1 W → RowAt W ca (hdCells ch) ∧ ∀ h ∈ ch, RowAt W h.a (intCells h.l))
    (hlen : ∀ h ∈ ch, h.l.length ≤ 5) (hK : K ≤ 4) (hcl : ch.length ≤ 120) :
    ∀ (m k : Nat) (zk : Int) (pre : List Hd) (cnt : Nat) (w : World), zk = (k : Int) → k + m = K → pre.length = k → (∀ h ∈ pre, h ∈ ch) → EInv w1 w C G K pre cnt → cnt + ch.length ^ m ≤ 1000000000 →
      Calls Tryz.prog 91 #[.int .i64 zk, .pointer (some ⟨lb, 0, none⟩), .pointer (some ⟨cb, 0, none⟩), .pointer (some ⟨pb, 0, none⟩), .pointer (some ⟨gb, 0, none⟩), .pointer (some ⟨vb, 0, none⟩)] w fun e w' => e = .returned (.tuple #[]) ∧ EInv w1 w' C G K pre (cnt + (Cv.ext (ch.map Hd.l) m (pre.map Hd.l)).countP fun L => decide (Cv.Act g L) && decide ((Cv.partsN L).length = 1)) := by
  have Hlb := Lib.hid hlb; have Hcb := Lib.hid hcb; have Hpb := Lib.hid hpb; have Hgb := Lib.hid hgb; have Hvb := Lib.hid hvb; have Hch := Lib.hid hch; have Hlen := Lib.hid hlen
  clear hlb hcb hpb hgb hvb hch hlen
  intro m
  induction m with
  | zero =>
    intro k zk pre cnt w hzk hkm hpl hpre hI hcnt
    subst hzk
    obtain rfl : k = K := by omega
    have k1 := Hlb.out w hI.keep
    have k2 := Hgb.out w hI.keep
    have hA := impl_IsAction g (some ⟨G, 0, none⟩) k (pre.map Hd.l) w (hI.grid fun h hh => (Hch.out w hI.keep).2 h (hpre h hh)) (fun p hp => by
      obtain ⟨h, hh, rfl⟩ := List.mem_map.1 hp
      exact Nat.le_trans (Hlen.out h (hpre h hh)) (by decide)) (by rw [List.length_map]; omega)
    rw [List.length_map, hpl] at hA
    have hcnt1 : cnt + 1 ≤ 1000000000 := by simpa using hcnt
    have hval : (Cv.ext (ch.map Hd.l) 0 (pre.map Hd.l)).countP (fun L => decide (Cv.Act g L) && decide ((Cv.partsN L).length = 1)) = if Cv.Act g (pre.map Hd.l) ∧ (Cv.partsN (pre.map Hd.l)).length = 1 then 1 else 0 := by
      show List.countP _ [pre.map Hd.l] = _
      rw [List.countP_cons, List.countP_nil]
      simp
    have hv := fun W (h : EInv w1 W C G k pre cnt) (hrows : GridAt W (some ⟨G, 0, none⟩) (pre.map Hd.l)) (hact : Cv.Act g (pre.map Hd.l)) => impl_visitB C G k cnt (pre.map Hd.l) W (by rw [List.length_map]; exact hpl) h.box hrows hact.2.1 (by omega)
    have hgr := fun W (h : EInv w1 W C G k pre cnt) => h.grid fun x hh => (Hch.out W h.keep).2 x (hpre x hh)
    have Hval := Lib.hid hval; have Hv := Lib.hid hv; have HI := Lib.hid hI; have Hgr := Lib.hid hgr
    by_cases hact : Cv.Act g (pre.map Hd.l)
    · rw [decide_eq_true hact] at hA
      have HA := Lib.hid hA; have Hact := Lib.hid hact
      clear hA hact hval hv hI hcnt hpre hkm hgr
      go_enter Tryz.func91, Tryz.ntmps91
      go_wp2_with fail
      refine HA.out.mono ?_
      rintro e w2 ⟨rfl, hb2⟩
      have hI2 := HI.out.next hb2
      have HI2 := Lib.hid hI2
      have k3 := Hvb.out w2 hI2.keep
      have k4 := Hlb.out w2 hI2.keep
      have Hvv := Lib.hid (Hv.out w2 hI2 (Hgr.out w2 hI2) Hact.out)
      clear hb2 hI2 k1 k2
      go_wp2_with fail
      refine Hvv.out.mono ?_
      rintro e w3 ⟨rfl, hk3, hg3⟩
      have HI3 := Lib.hid (HI2.out.count hk3 hg3)
      clear hk3 hg3 k3 k4
      go_wp2
      exact bodyPost_end (v := .tuple #[]) (by first | kernel_rfl | simp [results, Tryz.f91]) rfl ⟨rfl, by rw [Hval.out]; have := HI3.out; simpa [Hact.out] using this⟩
    · rw [decide_eq_false hact] at hA
      have HA := Lib.hid hA; have Hact := Lib.hid hact
      clear hA hact hval hv hI hcnt hpre hkm hgr
      go_enter Tryz.func91, Tryz.ntmps91
      go_wp2_with fail
      refine HA.out.mono ?_
      rintro e w2 ⟨rfl, hb2⟩
      have HI2 := Lib.hid (HI.out.next hb2)
      clear hb2 k1 k2
      go_wp2
      exact bodyPost_end (v := .tuple #[]) (by first | kernel_rfl | simp [results, Tryz.f91]) rfl ⟨rfl, by rw [Hval.out, if_neg (fun h => Hact.out h.1)]; exact HI2.out⟩
  | succ m ih =>
    intro k zk pre cnt w hzk hkm hpl hpre hI hcnt
    subst hzk
    have k1 := Hlb.out w hI.keep
    have k2 := Hcb.out w hI.keep
    have hlt0 : decide (k < K) = true := decide_eq_true (by omega)
    have hz0 : (0 : Int) ≤ (k : Int) := by omega
    have hz4 : (k : Int) ≤ 4 := by omega
    have hend := Cv.extTo_end (ch.map Hd.l) m (pre.map Hd.l)
    rw [← hend, List.length_map]
    have hstep := fun i (h : Hd) (hh : ch[i]? = some h) => Cv.count_step (A := ch.map Hd.l) (m := m) (pre := pre.map Hd.l) (P := fun L => decide (Cv.Act g L) && decide ((Cv.partsN L).length = 1)) (show (ch.map Hd.l)[i]? = some h.l by rw [List.getElem?_map, hh]; rfl)
    have hih := fun i (h : Hd) (hh : ch[i]? = some h) W (hw : EInv w1 W C G K (pre ++ [h]) (cnt + (Cv.extTo (ch.map Hd.l) m i (pre.map Hd.l)).countP fun L => decide (Cv.Act g L) && decide ((Cv.partsN L).length = 1))) => ih (k + 1) ((k : Int) + 1) (pre ++ [h]) _ W (by omega) (by omega) (by rw [List.length_append, hpl]; rfl) (fun x hx => by
      rcases List.mem_append.1 hx with hx | hx
      · exact hpre x hx
      · rw [List.mem_singleton.1 hx]; exact get_mem hh) hw (by
      have h1 : (Cv.extTo (ch.map Hd.l) m i (pre.map Hd.l)).countP (fun L => decide (Cv.Act g L) && decide ((Cv.partsN L).length = 1)) ≤ i * ch.length ^ m := by
        refine Nat.le_trans List.countP_le_length ?_
        unfold Cv.extTo
        rw [List.length_flatMap, Cv.sum_const (m := ch.length ^ m) fun x _ => by rw [Cv.ext_len, List.length_map]]
        exact Nat.mul_le_mul (by rw [List.length_take]; omega) (Nat.le_refl _)
      have h2 := (List.getElem?_eq_some_iff.1 hh).1
      have h3 : (i + 1) * ch.length ^ m ≤ ch.length * ch.length ^ m := Nat.mul_le_mul (by omega) (Nat.le_refl _)
      rw [Nat.pow_succ, Nat.mul_comm] at hcnt
      rw [Nat.add_mul] at h3
      omega)
    have hput := fun W c (h : Hd) (hw : EInv w1 W C G K pre c) => hw.put (h := h) (by rw [hpl]; omega)
    rw [hpl] at hput
    have hmap : ∀ h : Hd, (pre ++ [h]).map Hd.l = pre.map Hd.l ++ [h.l] := fun h => by simp
    have Hstep := Lib.hid hstep; have Hih := Lib.hid hih; have Hput := Lib.hid hput; have HI := Lib.hid hI; have Hmap := Lib.hid hmap
    have hkK : k < K := by omega
    have hkK2 : (k : Int) < (K : Int) := by omega
    clear hstep hih ih hput hend hI hcnt hpre hmap hpl
    go_enter Tryz.func91, Tryz.ntmps91
    go_wp2
    clear k1 k2
    go_loopw [8, 15] (fun _ iv wr => ∃ i : Nat, i ≤ ch.length ∧ iv = .int .i64 i ∧ Hid (EInv w1 wr C G K pre (cnt + (Cv.extTo (ch.map Hd.l) m i (pre.map Hd.l)).countP fun L => decide (Cv.Act g L) && decide ((Cv.partsN L).length = 1)))) (fun _ iv _ => ch.length - (intOf iv).toNat)
    case atStart => exact ⟨0, Nat.zero_le _, rfl, Lib.hid (by rw [Cv.extTo_zero]; exact HI.out)⟩
    case round =>
      obtain ⟨i, hi, rfl, hIr⟩ := hrel
      by_cases hlt : i < ch.length
      · obtain ⟨h, hh⟩ := get_some hlt
        have hkeep := hIr.out.keep
        obtain ⟨b, o, rfl, _, hc⟩ := (Hch.out wr hkeep).1.at (i := i) (by rw [hdCells_len]; exact hlt)
        have hcell : wr.cell? ⟨b, o + i, none⟩ = some (.slice h.a h.l.length h.c) := by
          obtain ⟨h1, rfl⟩ := List.getElem?_eq_some_iff.1 hh
          exact hc i _ (hdCells_get h1)
        have d1 := Hlb.out wr hkeep
        obtain ⟨v0, hdst, hfz⟩ := hIr.out.cell hkK
        have hp := Hput.out wr _ h hIr.out
        have hp2 := Hih.out i h hh _ hp
        have hst := Hstep.out i h hh
        have hval : Value.slice h.a h.l.length h.c = h.val := rfl
        have d2 := Hpb.out _ hp.keep
        rw [← hval] at d2 hp2 hp
        have i0 : (0 : Int) ≤ (i : Int) := by omega
        have i1 : (i : Int) < (ch.length : Int) := by omega
        have Hp2 := Lib.hid hp2; have Hst := Lib.hid hst
        rw [Hmap.out] at Hp2
        clear hp hp2 hst hc hh hkeep hval
        generalize h.l.length = hln at *
        go_wp2_with fail
        refine Hp2.out.mono ?_
        rintro e w3 ⟨rfl, hI3⟩
        have HI3 := Lib.hid hI3.pop
        clear hI3 d1 d2
        go_wp2
        go_roundw
        case rel => exact ⟨i + 1, by omega, by go_num, Lib.hid (by rw [Hst.out, ← Nat.add_assoc]; exact HI3.out)⟩
        case measure => simp [intOf]; omega
      · obtain rfl : i = ch.length := by omega
        go_wp2
        exact bodyPost_end (v := .tuple #[]) (by first | kernel_rfl | simp [results, Tryz.f91]) rfl ⟨rfl, hIr.out⟩
set_option maxRecDepth 10000 in
set_option maxHeartbeats 4000000 in
theorem impl_eachB (g : Int) (n C : Nat) (w : World) (hg : 0 ≤ g ∧ g ≤ 2) (hn : 1 ≤ n ∧ n ≤ 3) (hk : Blk w C 3 #[.int .i64 0]) :
    Calls Tryz.prog 47 #[.int .i64 g, .int .i64 (n : Int), .func (.func 62) #[] #[.pointer (some ⟨C, 0, none⟩)]] w fun e w' => e = .returned (.tuple #[]) ∧ Blk w' C 3 #[.int .i64 ((Cv.wholeN g n : Nat) : Int)] ∧ w.grownBy w' (some C) := by
  have hper := fun W => impl_allPermutations n W (by omega)
  have hcg := fun W => impl_countGenerators g W hg
  have hK : (2 * max 1 g) = ((Cv.gens g : Nat) : Int) := by unfold Cv.gens; omega
  rw [hK] at hcg
  have hK4 : Cv.gens g ≤ 4 := by unfold Cv.gens; omega
  have hmk := fun W => mk_rows (Cv.gens g) (by omega) W
  have hcnt : Cv.wholeN g n = (Cv.ext (Mp.natRows (Cv.all n)) (Cv.gens g) []).countP fun L => decide (Cv.Act g L) && decide ((Cv.partsN L).length = 1) := rfl
  have hAl : (Mp.natRows (Cv.all n)).length ≤ 120 := by rw [Cv.natRows_size]; exact Cv.all_few (by omega)
  have hA5 : ∀ r ∈ Mp.natRows (Cv.all n), r.length ≤ 5 := fun r hr => by have := (Cv.all_isP hr).1; omega
  have hA6 : (Mp.natRows (Cv.all n)).length ≤ 6 := by rw [Cv.natRows_size, Cv.all_len]; exact Nat.le_trans (Gr.fac_mono (show n ≤ 3 by omega)) (by decide +kernel)
  generalize Mp.natRows (Cv.all n) = A at *
  generalize Cv.gens g = K at *
  obtain ⟨V, hV⟩ : ∃ V, Cv.wholeN g n = V := ⟨_, rfl⟩
  rw [hV] at hcnt ⊢
  have Hk := Lib.hid hk; have Hcnt := Lib.hid hcnt; have Hper := Lib.hid hper; have Hcg := Lib.hid hcg; have Hmk := Lib.hid hmk; have HA5 := Lib.hid hA5; have HV := Lib.hid hV
  have hbA : Below w.heap.size w ((w.alloc (.cells #[.int .i64 g] 3)).alloc (.cells #[.func (.func 62) #[] #[.pointer (some ⟨C, 0, none⟩)]] 65)) := ((Below.refl _ _).alloc (Nat.le_refl _) _).alloc (by simp) _
  have hg1 : Blk ((w.alloc (.cells #[.int .i64 g] 3)).alloc (.cells #[.func (.func 62) #[] #[.pointer (some ⟨C, 0, none⟩)]] 65)) w.heap.size 3 #[.int .i64 g] := (Blk.new w _ _).alloc _
  have hv1 : Blk ((w.alloc (.cells #[.int .i64 g] 3)).alloc (.cells #[.func (.func 62) #[] #[.pointer (some ⟨C, 0, none⟩)]] 65)) (w.heap.size + 1) 65 #[.func (.func 62) #[] #[.pointer (some ⟨C, 0, none⟩)]] := by
    have := Blk.new (w.alloc (.cells #[.int .i64 g] 3)) 65 #[.func (.func 62) #[] #[.pointer (some ⟨C, 0, none⟩)]]
    simpa using this
  have HbA := Lib.hid hbA; have Hg1 := Lib.hid hg1; have Hv1 := Lib.hid hv1
  clear hk hcnt hper hcg hmk hK hbA hg1 hv1 hA5 hV
  go_enter Tryz.func47, Tryz.ntmps47
  go_wp2_with fail
  refine (Hper.out _).mono ?_
  rintro e w2 ⟨ca, cc, rfl, hcl, hcm, hgr2, hb2⟩
  have Hb2 := Lib.hid (HbA.out.trans (hb2.mono HbA.out.size))
  have hg2 := Hg1.out.below hb2 Hg1.out.lt
  have Hg2 := Lib.hid hg2
  have Hv2 := Lib.hid (Hv1.out.below hb2 Hv1.out.lt)
  have hlo : w.heap.size ≤ ((w.alloc (.cells #[.int .i64 g] 3)).alloc (.cells #[.func (.func 62) #[] #[.pointer (some ⟨C, 0, none⟩)]] 65)).heap.size := HbA.out.size
  have Hgr2 := Lib.hid (hgr2.mono hlo (Nat.le_refl _))
  have hw2 : w.heap.size + 2 ≤ w2.heap.size := by have := hb2.size; simp at this; omega
  -- the choices in their box
  have hb3 : Below w2.heap.size w2 (w2.alloc (.cells #[.slice ca A.length cc] 24)) := (Below.refl _ _).alloc (Nat.le_refl _) _
  have hg3 := (hg2.below hb3 hg2.lt).cell 0
  have Hb3 := Lib.hid hb3
  clear hgr2 hb2 hg2 hb3 hlo
  have hg3' : (w2.alloc (.cells #[.slice ca A.length cc] 24)).cell? ⟨w.heap.size, 0, none⟩ = some (.int .i64 g) := hg3
  clear hg3
  go_wp2_with fail
  refine (Hcg.out _).mono ?_
  rintro e w5 ⟨rfl, hb5⟩
  have Hb5 := Lib.hid hb5
  have hmk5 := Hmk.out w5
  clear hb5 hg3'
  go_wp2_with fail
  have hW8 : ∃ W8, W8 = ((w5.alloc (.cells (hdCells (List.replicate K ⟨none, 0, []⟩)).toArray 30)).alloc (.cells #[.slice (some ⟨w5.heap.size, 0, none⟩) K K] 24)).alloc (.cells #[Value.nilFunc] 92) := ⟨_, rfl⟩
  obtain ⟨W8, hW8⟩ := hW8
  rw [← hW8]
  have hb8 : Below w5.heap.size w5 W8 := by rw [hW8]; exact (((Below.refl _ _).alloc (Nat.le_refl _) _).alloc (by simp) _).alloc (by simp; omega) _
  have hG8 : Blk W8 w5.heap.size 30 (hdCells (List.replicate K ⟨none, 0, []⟩)).toArray := by rw [hW8]; exact ((Blk.new w5 _ _).alloc _).alloc _
  have hL8 : Blk W8 (w5.heap.size + 1) 24 #[.slice (some ⟨w5.heap.size, 0, none⟩) K K] := by
    rw [hW8]
    have := (Blk.new (w5.alloc (.cells (hdCells (List.replicate K ⟨none, 0, []⟩)).toArray 30)) 24 #[.slice (some ⟨w5.heap.size, 0, none⟩) K K]).alloc (.cells #[Value.nilFunc] 92)
    simpa using this
  have hP8 : Blk W8 (w5.heap.size + 1 + 1) 92 #[Value.nilFunc] := by
    rw [hW8]
    have := Blk.new ((w5.alloc (.cells (hdCells (List.replicate K ⟨none, 0, []⟩)).toArray 30)).alloc (.cells #[.slice (some ⟨w5.heap.size, 0, none⟩) K K] 24)) 92 #[Value.nilFunc]
    simpa using this
  clear hW8 hmk5
  have hb9 := fun v => hb8.setCell (p := ⟨w5.heap.size + 1 + 1, 0, none⟩) (by simp only []; omega) v
  have hG9 := fun v => hG8.far (p := ⟨w5.heap.size + 1 + 1, 0, none⟩) (by simp; omega) v
  have hL9 := fun v => hL8.far (p := ⟨w5.heap.size + 1 + 1, 0, none⟩) (by simp) v
  have hP9 := fun v => hP8.put 0 v
  have k8 := hP8.cell 0
  have k8' : W8.cell? ⟨w5.heap.size + 1 + 1, 0, none⟩ = some Value.nilFunc := k8
  have f8 := hP8.frozen 0
  have hst := fun (c : Array Value) => run_store Tryz.prog W8 ⟨w5.heap.size + 1 + 1, 0, none⟩ (.func (.func 91) #[] c) .plain rfl
  simp only [stored, k8', f8, Bool.false_eq_true, if_false] at hst
  have Hb9 := Lib.hid hb9; have HG9 := Lib.hid hG9; have HL9 := Lib.hid hL9; have HP9 := Lib.hid hP9
  clear hb8 hG8 hL8 hP8 k8 hb9 hG9 hL9 hP9
  rw [hst]
  obtain ⟨CLO, hCLO⟩ : ∃ v, v = Value.func (.func 91) #[] #[.pointer (some ⟨w5.heap.size + 1, 0, none⟩), .pointer (some ⟨w2.heap.size, 0, none⟩), .pointer (some ⟨w5.heap.size + 1 + 1, 0, none⟩), .pointer (some ⟨w.heap.size, 0, none⟩), .pointer (some ⟨w.heap.size + 1, 0, none⟩)] := ⟨_, rfl⟩
  have hP9 := HP9.out CLO
  have hL9 := HL9.out CLO
  have hG9 := HG9.out CLO
  have hb9 := Hb9.out CLO
  have k9 := hP9.cell 0
  clear hst k8' f8
  -- the world in which choose begins
  have hbw : Below w.heap.size w w5 := (Hb2.out.trans (Hb3.out.mono Hb2.out.size)).trans (Hb5.out.mono (by have := Hb2.out.size; have := Hb3.out.size; omega))
  have hw23 : w2.heap.size < w5.heap.size := by have := Hb5.out.size; simp at this; omega
  have hbx : Below w.heap.size w (W8.setCell ⟨w5.heap.size + 1 + 1, 0, none⟩ CLO) := hbw.trans (hb9.mono hbw.size)
  have hCw := Hk.out.lt
  have hC9 := Hk.out.below hbx hCw
  have hb39 : Below (w2.alloc (.cells #[.slice ca A.length cc] 24)).heap.size (w2.alloc (.cells #[.slice ca A.length cc] 24)) (W8.setCell ⟨w5.heap.size + 1 + 1, 0, none⟩ CLO) := Hb5.out.trans (hb9.mono Hb5.out.size)
  have hb29 := Hb3.out.trans (hb39.mono Hb3.out.size)
  have hg9 := Hg2.out.below hb29 Hg2.out.lt
  have hv9 := Hv2.out.below hb29 Hv2.out.lt
  have hc9 := (Blk.new w2 24 #[.slice ca A.length cc]).below hb39 (Blk.new w2 _ _).lt
  obtain ⟨ch, hmap, hrow, hrows, _⟩ := Hgr2.out.below hb29
  subst hmap
  rw [List.length_map] at hc9 hA6
  have hcl5 : ∀ h ∈ ch, h.l.length ≤ 5 := fun h hh => HA5.out h.l (List.mem_map_of_mem hh)
  have hpow : 0 + ch.length ^ K ≤ 1000000000 := by
    have h1 : ch.length ^ K ≤ 6 ^ K := Nat.pow_le_pow_left hA6 K
    have h2 : 6 ^ K ≤ 6 ^ 4 := Nat.pow_le_pow_right (by decide) hK4
    have h3 : (6 : Nat) ^ 4 = 1296 := by decide
    omega
  have hEI : EInv (W8.setCell ⟨w5.heap.size + 1 + 1, 0, none⟩ CLO) (W8.setCell ⟨w5.heap.size + 1 + 1, 0, none⟩ CLO) C w5.heap.size K [] 0 := ⟨Keep2.refl _ _ _, hC9, _, hG9, by simp [hdCells], fun i h hh => by simp at hh⟩
  have hwz := Hb2.out.size
  have hch := impl_chooseB (W8.setCell ⟨w5.heap.size + 1 + 1, 0, none⟩ CLO) (w5.heap.size + 1) w2.heap.size (w5.heap.size + 1 + 1) w.heap.size (w.heap.size + 1) C w5.heap.size K g ch ca cc
    (fun W h => (h.blk hL9 (by omega) (by omega)).cell 0) (fun W h => (h.blk hc9 (by omega) (by omega)).cell 0)
    (fun W h => by have := (h.blk hP9 (by omega) (by omega)).cell 0; rw [hCLO] at this; exact this)
    (fun W h => (h.blk hg9 (by omega) (by omega)).cell 0) (fun W h => (h.blk hv9 (by omega) (by omega)).cell 0)
    (fun W h => ⟨(h.rowIn hrow hCw (by omega)).row, fun x hx => (h.rowIn (hrows x hx) hCw (by omega)).row⟩)
    hcl5 hK4 (by omega) K 0 0 [] 0 _ rfl (by omega) rfl (by simp) hEI hpow
  have k9' : (W8.setCell ⟨w5.heap.size + 1 + 1, 0, none⟩ CLO).cell? ⟨w5.heap.size + 1 + 1, 0, none⟩ = some CLO := k9
  have hgw := fun W (h : Keep2 C w5.heap.size (W8.setCell ⟨w5.heap.size + 1 + 1, 0, none⟩ CLO) W) => h.grown hbx (by omega)
  clear hP9 hL9 hG9 hb9 k9 hbw hw23 hbx hC9 hg9 hv9 hc9 hrow hrows hb39 hb29 hEI hpow hcl5
  rw [← hCLO]
  generalize W8.setCell ⟨w5.heap.size + 1 + 1, 0, none⟩ CLO = W9 at *
  subst hCLO
  have Hch := Lib.hid hch; have Hgw := Lib.hid hgw
  clear hch hgw
  simp only [Result.andThen]
  go_wp2_with fail
  refine Hch.out.mono ?_
  rintro e w10 ⟨rfl, hI⟩
  have hbox := hI.box
  rw [Nat.zero_add] at hbox
  have Hbox := Lib.hid hbox; have Hend := Lib.hid (Hgw.out w10 hI.keep)
  clear hbox hI
  go_wp2
  exact bodyPost_end (v := .tuple #[]) (by first | kernel_rfl | simp [results, Tryz.f47]) rfl ⟨rfl, by rw [Hcnt.out]; exact Hbox.out, Hend.out⟩

set_option maxRecDepth 10000 in
theorem impl_CountCovers (g n : Int) (w : World) : Calls Tryz.prog 19 #[.int .i64 g, .int .i64 n] w fun e w' => e = .returned (.int .i64 (Cv.coverings g n)) ∧ Below w.heap.size w w' := by
  have hC := impl_isCounted g n w
  by_cases h : Cv.Counted g n
  · rw [decide_eq_true h] at hC
    rw [show Cv.coverings g n = ((Cv.wholeN g n.toNat / Gr.fac (n.toNat - 1) : Nat) : Int) from if_pos h]
    obtain ⟨hg, hn1, hn3⟩ := h
    obtain ⟨m, rfl⟩ := Int.eq_ofNat_of_zero_le (show 0 ≤ n by omega)
    rw [Int.toNat_natCast]
    have hE := impl_eachB g m w.heap.size (w.alloc (.cells #[.int .i64 0] 3)) hg ⟨by omega, by omega⟩ (Blk.new w _ _)
    have hbw : Below w.heap.size w (w.alloc (.cells #[.int .i64 0] 3)) := (Below.refl _ _).alloc (Nat.le_refl _) _
    have hper := fun W (z : Int) (hz : z = ((m - 1 : Nat) : Int)) => hz ▸ impl_allPermutations (m - 1) W (by omega)
    have hV := Cv.whole_le (g := g) (n := m) (by omega) (by omega)
    have hal : (Mp.natRows (Cv.all (m - 1))).length = Gr.fac (m - 1) := by rw [Cv.natRows_size, Cv.all_len]
    have hf0 : 0 < Gr.fac (m - 1) := Gr.fac_pos _
    generalize Mp.natRows (Cv.all (m - 1)) = ALL at *
    generalize Gr.fac (m - 1) = F at *
    generalize Cv.wholeN g m = V at *
    obtain ⟨Q, hQ⟩ : ∃ Q, V / F = Q := ⟨_, rfl⟩
    rw [hQ]
    have hVF : Q ≤ V := hQ ▸ Nat.div_le_self _ _
    have hq : (V : Int) / (F : Int) = (Q : Int) := by rw [← hQ]; rfl
    have hqt : (V : Int).tdiv (F : Int) = (Q : Int) := by rw [← hQ]; rfl
    have q0 : (0 : Int) ≤ (Q : Int) := by omega
    have q1 : (Q : Int) ≤ 1296 := by omega
    have hwm : IntKind.i64.wrap ((m : Int) - 1) = (m : Int) - 1 := wrap_small (by omega) (by omega)
    have hwq : IntKind.i64.wrap (Q : Int) = (Q : Int) := wrap_small (by omega) (by omega)
    have dz : ((F : Int) == 0) = false := beq_eq_false_iff_ne.2 (by omega)
    have dz' : (F : Int) ≠ 0 := by omega
    have dz3 : ¬ F = 0 := by omega
    have HC := Lib.hid hC; have HE := Lib.hid hE; have Hbw := Lib.hid hbw; have Hper := Lib.hid hper; have Hal := Lib.hid hal
    clear hC hE hbw hg hper hal
    go_enter Tryz.func19, Tryz.ntmps19
    go_wp2_with fail
    refine HC.out.mono ?_
    rintro e w1 ⟨rfl, hw1⟩
    rw [hw1]; clear hw1 w1
    go_wp2_with fail
    refine HE.out.mono ?_
    rintro e w2 ⟨rfl, hk2, hg2⟩
    have Hb2 := Lib.hid (below_of_only Hbw.out hg2 (Nat.le_refl _))
    have Hk2 := Lib.hid hk2
    clear hg2 hk2
    have k2 : w2.drew.cell? ⟨w.heap.size, 0, none⟩ = some (.int .i64 (V : Int)) := Hk2.out.drew.cell 0
    have hBd := Below.drew Hb2.out
    have HkSd := Lib.hid k2
    have hlw := Hk2.out.lt
    have HSb : Hid (∀ W, Below w2.drew.heap.size w2.drew W → W.cell? ⟨w.heap.size, 0, none⟩ = some (.int .i64 (V : Int))) := Lib.hid (fun W h => by rw [h.cell hlw]; exact HkSd.out)
    clear k2 hlw hVF hV
    have hqq : IntKind.i64.wrap ((V : Int).tdiv (F : Int)) = (Q : Int) := by rw [hqt]; exact hwq
    go_wp2
    go_region_held3 (fun w' => w'.cell? ⟨w.heap.size, 0, none⟩ = some (.int .i64 (V : Int))) (first | (with_reducible assumption) | (with_reducible exact HkSd.out)) (first
      | (go_at_call 63; refine (Hper.out _ _ (by omega)).mono ?_; rintro e w4 ⟨ca, cc, rfl, _, _, _, hb4⟩; rw [Hal.out]; have hB4 := hBd.trans (hb4.mono hBd.size); have hS4 := HSb.out _ hb4))
    all_goals
      clear hS4
      go_wp2
      go_ret
      exact ⟨rfl, hB4⟩
  · rw [decide_eq_false h] at hC
    rw [show Cv.coverings g n = -1 from if_neg h]
    have HC := Lib.hid hC
    clear h hC
    go_enter Tryz.func19, Tryz.ntmps19
    go_wp2_with fail
    refine HC.out.mono ?_
    rintro e w1 ⟨rfl, hw1⟩
    rw [hw1]; clear hw1 w1
    go_wp2
    go_ret
    exact ⟨rfl, Below.refl _ _⟩
end Go.Proofs.YtamgimdjnmcpaaaGreat
namespace Go.Proofs.YtamgimdjnmcpaaaGreat
open Go.RowKit

/-- append of a row to a row of the call's own, as a step of a region that draws. -/
theorem step_append_row {P : Program} {ops : Array Oper} {o : Oper} {a : Act} {W : World} {K : Act → World → Prop} {Q : Exit → Act → World → Prop} {E : Prop} (hgd : o.guard = none) (s x : Operand) (t : TypeId)
    (ho : o.op = .call { callee := .builtin .append, args := #[s, x], argTypes := #[t, t] })
    (base : Nat) (e : TypeId) (i : TypeInfo) (z : Value) (bytes : Nat) (ht : P.underlying t = some (.slice e)) (hi : P.info? e = some i) (hz : i.zero = some z)
    (hsize : i.size = 1) (hby : i.bytes = bytes) (hzs : z.cells.size = 1)
    (v : Value) (n : Nat) (xs : List Value) (hs : a.eval s = v) (hown : W.ownsRow base e 1 v n xs)
    (ad : Option Addr) (m c : Nat) (cs : List Value) (hx : a.eval x = .slice ad m c) (hr : RowAt W ad cs) (hm : cs.length = m) (hu : ∀ u ∈ cs, u.oneCell' = true)
    (h63 : n + m ≤ maxLen) (hbytes : (n + m) * bytes ≤ 140737488355328) (hbase : base ≤ W.heap.size)
    (h : ∀ v' w', w'.ownsRow base e 1 v' (n + m) (xs ++ cs) → W.grownBy w' v.ownBlock → K (a.put o.dst v') w') :
    if Region.wanted o (yielded ops a.tmps) = true then Oper.wp P o a W K Q else E := by
  have hw : Region.wanted o (yielded ops a.tmps) = true := by simp [Region.wanted, hgd]
  rw [if_pos hw]
  rcases hr with rfl | ⟨b, off, rfl, hlt, hc⟩
  · obtain rfl : m = 0 := hm.symm
    have hv : ∃ bo cap, v = .slice bo n cap ∧ n ≤ cap := by
      obtain ⟨_, ⟨h1, rfl⟩ | ⟨g, cap, cur, h1, _, _, hle, _⟩⟩ := hown
      · exact ⟨none, 0, h1, Nat.le_refl _⟩
      · exact ⟨_, cap, h1, hle⟩
    obtain ⟨bo, cap, rfl, hle⟩ := hv
    have hsrc : Src P i.size t (.slice ad 0 c) 0 [] W := by
      cases ad with
      | none => exact Src.ofNil W ht c
      | some ad => exact Src.ofSlice W ht ad 0 c [] (by simp) (fun j u hj => by simp at hj) (fun _ h => by cases h)
    refine Lib.wp_append_run_sl W s x t ho _ _ hs hx (run_append_nothing W t t o.type e i ht hi bo n cap hle _ hsrc) (h _ _ ?_ (World.grownBy.refl _ _))
    simpa using hown
  · exact wp_append_own W s x t ho base e i z 1 bytes ht hi hz hsize hby hzs (by decide) v n xs hs hown ⟨b, off, none⟩ m c cs hx (by rw [hm, Nat.mul_one])
      (fun j u hj => by rw [show (⟨b, off, none⟩ : Addr).add j = ⟨b, off + j, none⟩ from by unfold Addr.add; split <;> simp_all]; exact hc j u hj) hu h63 hbytes hbase (fun v' w' h1 h2 _ => h v' w' h1 h2)

end Go.Proofs.YtamgimdjnmcpaaaGreat
namespace Go.Proofs.YtamgimdjnmcpaaaGreat
open Go.RowKit

def Cv.pick (g : Int) (whole : Bool) (L : List (List Int)) : Bool := decide (Cv.Act g L) && (!whole || decide ((Cv.partsN L).length = 1))

set_option maxRecDepth 10000 in
set_option maxHeartbeats 4000000 in
theorem spec_l9Count (g : Int) (hg : 0 ≤ g ∧ g ≤ 2) (whole : Bool) (ch : List Hd) (ca : Option Addr) (cc : Nat) (hlen : ∀ h ∈ ch, h.l.length ≤ 5) (hcl : ch.length ≤ 120) :
    ∀ (m : Nat) (la : Option Addr) (lc : Nat) (ph : List Hd) (w : World), ph.length + m = Cv.gens g → (∀ h ∈ ph, h ∈ ch) → RowAt w ca (hdCells ch) → (∀ h ∈ ch, RowAt w h.a (intCells h.l)) → RowAt w la (hdCells ph) → ch.length ^ m ≤ 1000000000 →
      Calls Tryz.prog 60 #[.int .i64 g, .slice ca ch.length cc, .slice la ph.length lc, .bool whole] w fun e w' => e = .returned (.int .i64 (((Cv.ext (ch.map Hd.l) m (ph.map Hd.l)).countP (Cv.pick g whole) : Nat) : Int)) ∧ Below w.heap.size w w' := by
  have hK : (2 * max 1 g) = ((Cv.gens g : Nat) : Int) := by unfold Cv.gens; omega
  have hK4 : Cv.gens g ≤ 4 := by unfold Cv.gens; omega
  have hmx := fun W => spec_l1Max 1 g W
  have hmx2 : 1 ≤ max 1 g ∧ max 1 g ≤ 2 := by omega
  generalize max 1 g = M at *
  have Hmx := Lib.hid hmx; have Hlen := Lib.hid hlen
  clear hmx hlen
  intro m
  induction m with
  | zero =>
    intro la lc ph w hkm hpre hca hch hla hpow
    have hval : (Cv.ext (ch.map Hd.l) 0 (ph.map Hd.l)).countP (Cv.pick g whole) = if Cv.pick g whole (ph.map Hd.l) then 1 else 0 := by
      show List.countP _ [ph.map Hd.l] = _
      rw [List.countP_cons, List.countP_nil]
      simp
    have hgrid : GridAt w la (ph.map Hd.l) := ⟨ph, rfl, hla, fun h hh => hch h (hpre h hh)⟩
    have hA := spec_IsAction g la lc (ph.map Hd.l) w hgrid (fun p hp => by
      obtain ⟨h, hh, rfl⟩ := List.mem_map.1 hp
      exact Nat.le_trans (Hlen.out h (hpre h hh)) (by decide)) (by rw [List.length_map]; omega)
    have hdp : (((ph.length : Nat) : Int) == ((Cv.gens g : Nat) : Int)) = true := by exact beq_iff_eq.2 (by omega)
    rw [hval]
    have hA5 := fun W (hb : Below w.heap.size w W) (hP : Cv.Perms (ph.map Hd.l)) => spec_l9Parts la lc (ph.map Hd.l) W (hgrid.below hb) hP
    have hpk : Cv.pick g whole (ph.map Hd.l) = (decide (Cv.Act g (ph.map Hd.l)) && (!whole || decide ((Cv.partsN (ph.map Hd.l)).length = 1))) := rfl
    rw [hpk]
    have hnl : (Mp.natRows (Cv.partsN (ph.map Hd.l))).length = (Cv.partsN (ph.map Hd.l)).length := Cv.natRows_size _
    rw [List.length_map] at hA hA5
    by_cases hact : Cv.Act g (ph.map Hd.l)
    · rw [decide_eq_true hact] at hA ⊢
      have hPP := hact.2.1
      cases whole
      · have HA := Lib.hid hA
        clear hA hA5 hact hPP hval hpk hnl hgrid
        go_enter Tryz.func60, Tryz.ntmps60
        go_wp2_with fail
        refine (Hmx.out _).mono ?_
        rintro e w1 ⟨rfl, hw1⟩
        rw [hw1]; clear hw1 w1
        go_wp2_with fail
        refine HA.out.mono ?_
        rintro e w2 ⟨rfl, hb2⟩
        have Hb2 := Lib.hid hb2; clear hb2
        go_wp2_with fail
        refine (spec_l1Bit true w2).mono ?_
        rintro e w3 ⟨rfl, hw3⟩
        rw [hw3]; clear hw3 w3
        go_wp2
        go_ret
        exact ⟨rfl, Hb2.out⟩
      · have hpp := fun W hb => hA5 W hb hPP
        rw [show (!true || decide ((Cv.partsN (ph.map Hd.l)).length = 1)) = decide ((Cv.partsN (ph.map Hd.l)).length = 1) from rfl, Bool.true_and]
        generalize Mp.natRows (Cv.partsN (ph.map Hd.l)) = R at *
        generalize (Cv.partsN (ph.map Hd.l)).length = q at *
        obtain ⟨v, hv⟩ : ∃ v, decide (q = 1) = v := ⟨_, rfl⟩
        have hv2 : (((q : Nat) : Int) == 1) = v := by rw [← hv, Bool.eq_iff_iff, beq_iff_eq, decide_eq_true_eq]; omega
        rw [hv]
        have HA := Lib.hid hA; have Hpp := Lib.hid hpp; have Hnl := Lib.hid hnl
        clear hA hA5 hact hPP hval hpk hnl hgrid hpp hv
        cases v
        all_goals
          go_enter Tryz.func60, Tryz.ntmps60
          go_wp2_with fail
          refine (Hmx.out _).mono ?_
          rintro e w1 ⟨rfl, hw1⟩
          rw [hw1]; clear hw1 w1
          go_wp2_with fail
          refine HA.out.mono ?_
          rintro e w2 ⟨rfl, hb2⟩
          have Hb2 := Lib.hid hb2; clear hb2
          go_wp2_with fail
          refine (Hpp.out w2 Hb2.out).mono ?_
          rintro e w3 ⟨pa, pc, rfl, _, _, _, hb3⟩
          rw [Hnl.out]
          have Hb3 := Lib.hid (Hb2.out.trans (hb3.mono Hb2.out.size)); clear hb3
          go_wp2_with fail
          refine (spec_l1Bit _ w3).mono ?_
          rintro e w4 ⟨rfl, hw4⟩
          rw [hw4]; clear hw4 w4
          go_wp2
          go_ret
          exact ⟨rfl, Hb3.out⟩
    · rw [decide_eq_false hact] at hA ⊢
      have HA := Lib.hid hA
      clear hA hA5 hact hval hpk hnl hgrid
      rw [Bool.false_and]
      go_enter Tryz.func60, Tryz.ntmps60
      go_wp2_with fail
      refine (Hmx.out _).mono ?_
      rintro e w1 ⟨rfl, hw1⟩
      rw [hw1]; clear hw1 w1
      go_wp2_with fail
      refine HA.out.mono ?_
      rintro e w2 ⟨rfl, hb2⟩
      have Hb2 := Lib.hid hb2; clear hb2
      go_wp2_with fail
      refine (spec_l1Bit false w2).mono ?_
      rintro e w3 ⟨rfl, hw3⟩
      rw [hw3]; clear hw3 w3
      go_wp2
      go_ret
      exact ⟨rfl, Hb2.out⟩
  | succ m ih =>
    intro la lc ph w hkm hpre hca hch hla hpow
    have hdp : (((ph.length : Nat) : Int) == ((Cv.gens g : Nat) : Int)) = false := by exact beq_eq_false_iff_ne.2 (by omega)
    have hend := Cv.extTo_end (ch.map Hd.l) m (ph.map Hd.l)
    rw [← hend, List.length_map]
    have hstep := fun i (h : Hd) (hh : ch[i]? = some h) => Cv.count_step (A := ch.map Hd.l) (m := m) (pre := ph.map Hd.l) (P := Cv.pick g whole) (show (ch.map Hd.l)[i]? = some h.l by rw [List.getElem?_map, hh]; rfl)
    have hbnd : ∀ i, (Cv.extTo (ch.map Hd.l) m i (ph.map Hd.l)).countP (Cv.pick g whole) ≤ 1000000000 := fun i => Nat.le_trans (Cv.count_le _ _ _ _ _) (by rw [List.length_map]; exact hpow)
    have hpm : ch.length ^ m ≤ 1000000000 := by
      rcases Nat.eq_zero_or_pos ch.length with h | h
      · rw [h]; cases m with
        | zero => decide
        | succ m => rw [Nat.zero_pow (by omega)]; decide
      · exact Nat.le_trans (Nat.pow_le_pow_right h (Nat.le_succ m)) hpow
    have hih := fun W (hb : Below w.heap.size w W) (a9 : Option Addr) (c9 : Nat) (h : Hd) (hh : h ∈ ch) (hrow : RowAt W a9 ([] ++ hdCells ph ++ [h.val])) => ih a9 c9 (ph ++ [h]) W (by rw [List.length_append]; simp only [List.length_singleton]; omega) (fun x hx => by
      rcases List.mem_append.1 hx with hx | hx
      · exact hpre x hx
      · rw [List.mem_singleton.1 hx]; exact hh) (hca.below hb) (fun x hx => (hch x hx).below hb) (by rw [List.nil_append, hdCells_snoc] at hrow; exact hrow) hpm
    have hmap : ∀ h : Hd, (ph ++ [h]).map Hd.l = ph.map Hd.l ++ [h.l] := fun h => by simp
    have hll : ∀ h : Hd, (ph ++ [h]).length = ph.length + 1 := fun h => by simp
    simp only [hmap, hll] at hih
    obtain ⟨i0, hi0, hz0, hz1, hz2⟩ := info_ints_parts
    have Hstep := Lib.hid hstep; have Hih := Lib.hid hih; have Hbnd := Lib.hid hbnd
    have Hi0 := Lib.hid hi0; have Hz0 := Lib.hid hz0; have Hz1 := Lib.hid hz1; have Hz2 := Lib.hid hz2
    have Hca := Lib.hid hca; have Hla := Lib.hid hla
    have hp4 : ph.length ≤ 3 := by omega
    have hm1 : 0 + ph.length ≤ maxLen := by unfold maxLen; omega
    have hm2 : (0 + ph.length) * 24 ≤ 140737488355328 := by omega
    have hm3 : 0 + ph.length + 1 ≤ maxLen := by unfold maxLen; omega
    have hm4 : (0 + ph.length + 1) * 24 ≤ 140737488355328 := by omega
    have Hm1 := Lib.hid hm1; have Hm2 := Lib.hid hm2; have Hm3 := Lib.hid hm3; have Hm4 := Lib.hid hm4
    clear hstep hih ih hend hbnd hpow hpm hmap hll hi0 hz0 hz1 hz2 hpre hch hca hla hm1 hm2 hm3 hm4
    go_enter Tryz.func60, Tryz.ntmps60
    go_wp2_with fail
    refine (Hmx.out _).mono ?_
    rintro e w1 ⟨rfl, hw1⟩
    rw [hw1]; clear hw1 w1
    go_wp2
    go_loopw [9, 10] (fun sv iv wr => ∃ i : Nat, i ≤ ch.length ∧ iv = .int .i64 i ∧ sv = .int .i64 (((Cv.extTo (ch.map Hd.l) m i (ph.map Hd.l)).countP (Cv.pick g whole) : Nat) : Int) ∧ Hid (Below w.heap.size w wr)) (fun _ iv _ => ch.length - (intOf iv).toNat)
    case atStart => exact ⟨0, Nat.zero_le _, rfl, by rw [Cv.extTo_zero]; rfl, Lib.hid (Below.refl _ _)⟩
    case round =>
      obtain ⟨i, hi, rfl, rfl, hb⟩ := hrel
      by_cases hlt : i < ch.length
      · obtain ⟨h, hh⟩ := get_some hlt
        obtain ⟨b, o, rfl, hbo, hc⟩ := Hca.out.at (i := i) (by rw [hdCells_len]; exact hlt)
        have hcell : w.cell? ⟨b, o + i, none⟩ = some h.val := by
          obtain ⟨h1, rfl⟩ := List.getElem?_eq_some_iff.1 hh
          exact hc i _ (hdCells_get h1)
        have hK1 : ∀ W, Below wr.heap.size wr W → W.cell? ⟨b, o + i, none⟩ = some h.val := fun W h2 => by rw [(hb.out.trans (h2.mono hb.out.size)).cell hbo]; exact hcell
        have hIH := fun W (h2 : Below wr.heap.size wr W) (a9 : Option Addr) (c9 : Nat) (hrow : RowAt W a9 ([] ++ hdCells ph ++ [h.val])) => Hih.out W (hb.out.trans (h2.mono hb.out.size)) a9 c9 h (get_mem hh) hrow
        have hst := Hstep.out i h hh
        have hb1 := Hbnd.out i
        have hb2 := Hbnd.out (i + 1)
        have hla1 := Hla.out.below hb.out
        have hlen9 : ([] ++ hdCells ph ++ [h.val]).length = 0 + ph.length + 1 := by rw [List.nil_append, List.length_append, hdCells_len]; simp
        have hval : h.val = Value.slice h.a h.l.length h.c := rfl
        rw [hst] at hb2
        generalize (Cv.ext (ch.map Hd.l) m (ph.map Hd.l ++ [h.l])).countP (Cv.pick g whole) = X at *
        generalize hCi : (Cv.extTo (ch.map Hd.l) m i (ph.map Hd.l)).countP (Cv.pick g whole) = Ci at *
        rw [hval] at hK1 hIH hlen9
        generalize h.l.length = hln at *
        generalize h.a = ha at *
        generalize h.c = hcc at *
        have hone : ∀ u ∈ [Value.slice ha hln hcc], u.oneCell' = true := fun u hu => by rw [List.mem_singleton.1 hu]; rfl
        -- the worlds ahead of the first append
        have hBA : Below wr.heap.size wr (wr.alloc (.cells #[] 30)).drew := Below.drew ((Below.refl _ _).alloc (Nat.le_refl _) _)
        have hBO : Below wr.heap.size wr (wr.alloc (.cells #[.slice ha hln hcc] 30)).drew := Below.drew ((Below.refl _ _).alloc (Nat.le_refl _) _)
        have hBB : Below wr.heap.size wr ((wr.alloc (.cells #[] 30)).alloc (.cells #[.slice ha hln hcc] 30)).drew := Below.drew (((Below.refl _ _).alloc (Nat.le_refl _) _).alloc (by simp) _)
        have hBC : Below wr.heap.size wr ((wr.alloc (.cells #[.slice ha hln hcc] 30)).alloc (.cells #[] 30)).drew := Below.drew (((Below.refl _ _).alloc (Nat.le_refl _) _).alloc (by simp) _)
        have hoA : (wr.alloc (.cells #[] 30)).ownsRow wr.heap.size 30 1 (.slice (some ⟨wr.heap.size, 0, none⟩) 0 0) 0 [] := World.ownsRow_made (base := wr.heap.size) (e := 30) (size := 1) wr #[] 0 (by omega) (by unfold maxLen; omega) (by rfl)
        have hoC : ((wr.alloc (.cells #[.slice ha hln hcc] 30)).alloc (.cells #[] 30)).ownsRow wr.heap.size 30 1 (.slice (some ⟨wr.heap.size + 1, 0, none⟩) 0 0) 0 [] := by
          have := World.ownsRow_made (base := wr.heap.size) (e := 30) (size := 1) (wr.alloc (.cells #[.slice ha hln hcc] 30)) #[] 0 (by simp) (by unfold maxLen; omega) (by rfl)
          simpa using this
        have hkB : Blk ((wr.alloc (.cells #[] 30)).alloc (.cells #[.slice ha hln hcc] 30)) (wr.heap.size + 1) 30 #[.slice ha hln hcc] := by
          have := Blk.new (wr.alloc (.cells #[] 30)) 30 #[.slice ha hln hcc]
          simpa using this
        have hkC : Blk ((wr.alloc (.cells #[.slice ha hln hcc] 30)).alloc (.cells #[] 30)) wr.heap.size 30 #[.slice ha hln hcc] := (Blk.new wr _ _).alloc _
        have HBA := Lib.hid hBA; have HBB := Lib.hid hBB; have HBC := Lib.hid hBC
        have HoA := Lib.hid hoA.drew; have HoB := Lib.hid (hoA.alloc (.cells #[.slice ha hln hcc] 30)).drew; have HoC := Lib.hid hoC.drew
        have HrA := Lib.hid (hla1.below hBA); have HrB := Lib.hid (hla1.below hBB); have HrC := Lib.hid (hla1.below hBC)
        have HkB := Lib.hid hkB.drew; have HkC := Lib.hid hkC.drew
        have HK0 := Lib.hid (hK1 _ (Below.drew (Below.refl _ wr))); have HKA := Lib.hid (hK1 _ hBA); have HKO := Lib.hid (hK1 _ hBO); have HKB := Lib.hid (hK1 _ hBB); have HKC := Lib.hid (hK1 _ hBC)
        have HK := Lib.hid hK1; have HIH := Lib.hid hIH; have Hlen9 := Lib.hid hlen9; have Hone := Lib.hid hone
        have Hst := Lib.hid hst
        have i0' : (0 : Int) ≤ (i : Int) := by omega
        have i1' : (i : Int) < (ch.length : Int) := by omega
        have x0 : (0 : Int) ≤ (X : Int) := by omega
        have x1 : (0 : Int) ≤ (Ci : Int) := by omega
        have x2 : (Ci : Int) + (X : Int) ≤ 1000000000 := by omega
        have x3 : IntKind.i64.wrap ((Ci : Int) + (X : Int)) = (Ci : Int) + (X : Int) := wrap_small (by omega) (by omega)
        clear hBA hBO hBB hBC hoA hoC hkB hkC hK1 hIH hst hb1 hb2 hlen9 hone hla1 hcell hc hbo hh hval hCi
        go_wp2
        go_region_held3 (fun w' => w'.cell? ⟨b, o + i, none⟩ = some (.slice ha hln hcc)) (first | (with_reducible assumption) | (with_reducible exact HK0.out) | (with_reducible exact HKA.out) | (with_reducible exact HKO.out) | (with_reducible exact HKB.out) | (with_reducible exact HKC.out)) (first
          | (refine step_append_row rfl (.tmp 40) (.tmp 41) 24 rfl wr.heap.size 30 i0 _ 24 Tryz.underlying24 Hi0.out Hz0.out Hz1.out Hz2.out (by rfl) _ _ _ (by rfl) HoA.out _ _ _ _ (by rfl) HrA.out (hdCells_len ph) (hdCells_one ph) Hm1.out Hm2.out (by exact HBA.out.size) ?_; intro v8 w8 hown8 hg8; have hB8 := HBA.out.grown hg8 (by exact HBA.out.size) (fun k hk => (HoA.out.lt k hk).1); have hS8 := HK.out _ hB8; have hB8a := hB8.alloc hB8.size (.cells #[.slice ha hln hcc] 30); have hS8a := HK.out _ hB8a; have ho8 := hown8.alloc (.cells #[.slice ha hln hcc] 30); have hr8 := (Blk.new w8 30 #[.slice ha hln hcc]).row; clear hown8 hg8)
          | (refine step_append_row rfl (.tmp 40) (.tmp 41) 24 rfl wr.heap.size 30 i0 _ 24 Tryz.underlying24 Hi0.out Hz0.out Hz1.out Hz2.out (by rfl) _ _ _ (by rfl) HoB.out _ _ _ _ (by rfl) HrB.out (hdCells_len ph) (hdCells_one ph) Hm1.out Hm2.out (by exact HBB.out.size) ?_; intro v8 w8 hown8 hg8; have hB8 := HBB.out.grown hg8 (by exact HBB.out.size) (fun k hk => (HoB.out.lt k hk).1); have hS8 := HK.out _ hB8; have hB8a := hB8; have ho8 := hown8; have hr8 := (HkB.out.off hg8 (by intro k hk; rw [own_block hk]; omega)).row; clear hown8 hg8)
          | (refine step_append_row rfl (.tmp 40) (.tmp 41) 24 rfl wr.heap.size 30 i0 _ 24 Tryz.underlying24 Hi0.out Hz0.out Hz1.out Hz2.out (by rfl) _ _ _ (by rfl) HoC.out _ _ _ _ (by rfl) HrC.out (hdCells_len ph) (hdCells_one ph) Hm1.out Hm2.out (by exact HBC.out.size) ?_; intro v8 w8 hown8 hg8; have hB8 := HBC.out.grown hg8 (by exact HBC.out.size) (fun k hk => (HoC.out.lt k hk).1); have hS8 := HK.out _ hB8; have hB8a := hB8; have ho8 := hown8; have hr8 := (HkC.out.off hg8 (by intro k hk; rw [own_block hk]; omega)).row; clear hown8 hg8)
          | (refine step_append_row rfl (.tmp 42) (.tmp 47) 24 rfl wr.heap.size 30 i0 _ 24 Tryz.underlying24 Hi0.out Hz0.out Hz1.out Hz2.out (by rfl) _ _ _ (by rfl) ho8 _ _ _ _ (by rfl) hr8 rfl Hone.out Hm3.out Hm4.out hB8a.size ?_; intro v9 w9 hown9 hg9; have hB9 := hB8a.grown hg9 hB8a.size (fun k hk => (ho8.lt k hk).1); have hS9 := HK.out _ hB9; obtain ⟨a9, c9, rfl, hr9⟩ := own_row hown9 Hlen9.out; clear hown9 hg9)
          | (go_at_call 60; refine (HIH.out _ hB9 _ _ hr9).mono ?_; rintro e w10 ⟨rfl, hb10⟩; have hB10 := hB9.trans (hb10.mono hB9.size); have hS10 := HK.out _ hB10))
        all_goals
          have HB10 := Lib.hid (hb.out.trans (hB10.mono hb.out.size))
          clear hS10
          go_wp2
          go_roundw
          case rel => exact ⟨i + 1, by omega, by go_num, by rw [Hst.out]; rfl, HB10⟩
          case measure => simp [intOf]; omega
      · obtain rfl : i = ch.length := by omega
        go_wp2
        go_ret
        exact ⟨rfl, hb.out⟩

theorem Cv.cntN {g : Int} {n : Nat} : (Cv.ext (Mp.natRows (Cv.all n)) (Cv.gens g) []).countP (Cv.pick g false) = Cv.actsN g n := by
  unfold Cv.actsN Cv.lists
  exact List.countP_congr fun L _ => by simp [Cv.pick]
theorem Cv.cntW {g : Int} {n : Nat} : (Cv.ext (Mp.natRows (Cv.all n)) (Cv.gens g) []).countP (Cv.pick g true) = Cv.wholeN g n := by
  unfold Cv.wholeN Cv.lists
  exact List.countP_congr fun L _ => by simp [Cv.pick]
/-- From the empty list on. -/
theorem spec_l9Start (g : Int) (hg : 0 ≤ g ∧ g ≤ 2) (whole : Bool) (n : Nat) (hn : n ≤ 3) (W : World) (ca : Option Addr) (cc : Nat) (lo hi : Nat) (la : Option Addr) (lc : Nat) (hA : GridIn W lo hi ca (Mp.natRows (Cv.all n))) :
    Calls Tryz.prog 60 #[.int .i64 g, .slice ca (Mp.natRows (Cv.all n)).length cc, .slice la 0 lc, .bool whole] W fun e w' => e = .returned (.int .i64 (((Cv.ext (Mp.natRows (Cv.all n)) (Cv.gens g) []).countP (Cv.pick g whole) : Nat) : Int)) ∧ Below W.heap.size W w' := by
  obtain ⟨ch, hmap, hrow, hrows, _⟩ := hA
  have hK4 : Cv.gens g ≤ 4 := by unfold Cv.gens; omega
  have hl6 : ch.length ≤ 6 := by
    have : ch.length = (Mp.natRows (Cv.all n)).length := by rw [← hmap, List.length_map]
    rw [this, Cv.natRows_size, Cv.all_len]; exact Nat.le_trans (Gr.fac_mono hn) (by decide +kernel)
  have hlen : ∀ h ∈ ch, h.l.length ≤ 5 := fun h hh => by
    have := (Cv.all_isP (n := n) (r := h.l) (hmap ▸ List.mem_map_of_mem hh)).1; omega
  have hpow : ch.length ^ Cv.gens g ≤ 1000000000 := by
    have h1 : ch.length ^ Cv.gens g ≤ 6 ^ Cv.gens g := Nat.pow_le_pow_left hl6 _
    have h2 : 6 ^ Cv.gens g ≤ 6 ^ 4 := Nat.pow_le_pow_right (by decide) hK4
    have h3 : (6 : Nat) ^ 4 = 1296 := by decide
    omega
  rw [← hmap, List.length_map]
  exact spec_l9Count g hg whole ch ca cc hlen (by omega) (Cv.gens g) la lc [] W (by simp) (fun h hh => by cases hh) hrow.row (fun h hh => (hrows h hh).row) (Or.inl rfl) hpow
set_option maxRecDepth 10000 in
set_option maxHeartbeats 2000000 in
theorem spec_CountActions (g n : Int) (w : World) : Calls Tryz.prog 18 #[.int .i64 g, .int .i64 n] w fun e w' => e = .returned (.int .i64 (Cv.acts g n)) ∧ Below w.heap.size w w' := by
  have hi1 := fun W => spec_l1In g 0 2 W
  have hi2 := fun W => spec_l1In n 1 3 W
  by_cases hg : 0 ≤ g ∧ g ≤ 2
  · rw [decide_eq_true hg] at hi1
    by_cases hn : 1 ≤ n ∧ n ≤ 3
    · rw [decide_eq_true hn] at hi2
      rw [show Cv.acts g n = (Cv.actsN g n.toNat : Int) from if_pos ⟨hg, hn⟩]
      obtain ⟨m, rfl⟩ := Int.eq_ofNat_of_zero_le (show 0 ≤ n by omega)
      rw [Int.toNat_natCast]
      have hAll := fun W => spec_l9All m W (by omega)
      have hCnt := spec_l9Start g hg false m (by omega)
      rw [Cv.cntN] at hCnt
      generalize Mp.natRows (Cv.all m) = A at *
      generalize Cv.actsN g m = V at *
      have HAll := Lib.hid hAll; have HCnt := Lib.hid hCnt; have Hi1 := Lib.hid hi1; have Hi2 := Lib.hid hi2
      clear hg hn hAll hCnt hi1 hi2
      go_enter Tryz.func18, Tryz.ntmps18
      go_wp2_with fail
      refine (Hi1.out _).mono ?_
      rintro e w1 ⟨rfl, hw1⟩
      rw [hw1]; clear hw1 w1
      go_wp2_with fail
      refine (Hi2.out _).mono ?_
      rintro e w1 ⟨rfl, hw1⟩
      rw [hw1]; clear hw1 w1
      go_wp2_with fail
      refine (HAll.out _).mono ?_
      rintro e w4 ⟨ca, cc, rfl, _, _, hgi, hb4⟩
      have hB5 := hb4.alloc hb4.size (.cells #[] 30)
      have hg5 := hgi.below ((Below.refl w4.heap.size w4).alloc (Nat.le_refl _) (.cells #[] 30))
      have HB5 := Lib.hid hB5; have Hg5 := Lib.hid hg5
      clear hB5 hg5 hgi hb4
      go_wp2_with fail
      refine (HCnt.out _ _ _ _ _ _ _ Hg5.out).mono ?_
      rintro e w6 ⟨rfl, hb6⟩
      have HB6 := Lib.hid (HB5.out.trans (hb6.mono HB5.out.size))
      clear hb6
      go_wp2
      go_ret
      exact ⟨rfl, HB6.out⟩
    · rw [decide_eq_false hn] at hi2
      rw [show Cv.acts g n = -1 from if_neg fun h => hn h.2]
      have Hi1 := Lib.hid hi1; have Hi2 := Lib.hid hi2
      clear hg hn hi1 hi2
      go_enter Tryz.func18, Tryz.ntmps18
      go_wp2_with fail
      refine (Hi1.out _).mono ?_
      rintro e w1 ⟨rfl, hw1⟩
      rw [hw1]; clear hw1 w1
      go_wp2_with fail
      refine (Hi2.out _).mono ?_
      rintro e w1 ⟨rfl, hw1⟩
      rw [hw1]; clear hw1 w1
      go_wp2
      go_ret
      exact ⟨rfl, Below.refl _ _⟩
  · rw [decide_eq_false hg] at hi1
    rw [show Cv.acts g n = -1 from if_neg fun h => hg h.1]
    have Hi1 := Lib.hid hi1
    clear hg hi1 hi2
    go_enter Tryz.func18, Tryz.ntmps18
    go_wp2_with fail
    refine (Hi1.out _).mono ?_
    rintro e w1 ⟨rfl, hw1⟩
    rw [hw1]; clear hw1 w1
    go_wp2
    go_ret
    exact ⟨rfl, Below.refl _ _⟩
end Go.Proofs.YtamgimdjnmcpaaaGreat
namespace Go.Proofs.YtamgimdjnmcpaaaGreat
open Go.RowKit

set_option maxRecDepth 10000 in
set_option maxHeartbeats 2000000 in
theorem spec_CountCovers (g n : Int) (w : World) : Calls Tryz.prog 20 #[.int .i64 g, .int .i64 n] w fun e w' => e = .returned (.int .i64 (Cv.coverings g n)) ∧ Below w.heap.size w w' := by
  have hi1 := fun W => spec_l1In g 0 2 W
  have hi2 := fun W => spec_l1In n 1 3 W
  by_cases hg : 0 ≤ g ∧ g ≤ 2
  · rw [decide_eq_true hg] at hi1
    by_cases hn : 1 ≤ n ∧ n ≤ 3
    · rw [decide_eq_true hn] at hi2
      rw [show Cv.coverings g n = ((Cv.wholeN g n.toNat / Gr.fac (n.toNat - 1) : Nat) : Int) from if_pos ⟨hg, hn⟩]
      obtain ⟨m, rfl⟩ := Int.eq_ofNat_of_zero_le (show 0 ≤ n by omega)
      rw [Int.toNat_natCast]
      have hAll := fun W => spec_l9All m W (by omega)
      have hCnt := spec_l9Start g hg true m (by omega)
      have hV := Cv.whole_le (g := g) (n := m) (by omega) (by omega)
      have hF := fun W => spec_l7Factorial ((m : Int) - 1) W (by omega) (by omega)
      rw [show ((m : Int) - 1).toNat = m - 1 by omega] at hF
      have hf0 : 0 < Gr.fac (m - 1) := Gr.fac_pos _
      have hf1 : Gr.fac (m - 1) ≤ 6 := Nat.le_trans (Gr.fac_mono (show m - 1 ≤ 3 by omega)) (by decide +kernel)
      rw [Cv.cntW] at hCnt
      generalize Mp.natRows (Cv.all m) = A at *
      generalize Cv.wholeN g m = V at *
      generalize Gr.fac (m - 1) = F at *
      obtain ⟨Q, hQ⟩ : ∃ Q, V / F = Q := ⟨_, rfl⟩
      rw [hQ]
      have hVF : Q ≤ V := hQ ▸ Nat.div_le_self _ _
      have hq : (V : Int) / (F : Int) = (Q : Int) := by rw [← hQ]; rfl
      have hqt : (V : Int).tdiv (F : Int) = (Q : Int) := by rw [← hQ]; rfl
      have q0 : (0 : Int) ≤ (Q : Int) := by omega
      have q1 : (Q : Int) ≤ 1296 := by omega
      have hwm : IntKind.i64.wrap ((m : Int) - 1) = (m : Int) - 1 := wrap_small (by omega) (by omega)
      have hwq : IntKind.i64.wrap (Q : Int) = (Q : Int) := wrap_small (by omega) (by omega)
      have hqq : IntKind.i64.wrap ((V : Int).tdiv (F : Int)) = (Q : Int) := by rw [hqt]; exact hwq
      have dz : ((F : Int) == 0) = false := beq_eq_false_iff_ne.2 (by omega)
      have dz' : (F : Int) ≠ 0 := by omega
      have dz3 : ¬ F = 0 := by omega
      have HAll := Lib.hid hAll; have HCnt := Lib.hid hCnt; have Hi1 := Lib.hid hi1; have Hi2 := Lib.hid hi2; have HF := Lib.hid hF
      clear hg hAll hCnt hi1 hi2 hF hVF hV hf0 hf1
      go_enter Tryz.func20, Tryz.ntmps20
      go_wp2_with fail
      refine (Hi1.out _).mono ?_
      rintro e w1 ⟨rfl, hw1⟩
      rw [hw1]; clear hw1 w1
      go_wp2_with fail
      refine (Hi2.out _).mono ?_
      rintro e w1 ⟨rfl, hw1⟩
      rw [hw1]; clear hw1 w1
      go_wp2_with fail
      refine (HAll.out _).mono ?_
      rintro e w4 ⟨ca, cc, rfl, _, _, hgi, hb4⟩
      have hB5 := hb4.alloc hb4.size (.cells #[] 30)
      have hg5 := hgi.below ((Below.refl w4.heap.size w4).alloc (Nat.le_refl _) (.cells #[] 30))
      have HB5 := Lib.hid hB5; have Hg5 := Lib.hid hg5
      clear hB5 hg5 hgi hb4
      go_wp2_with fail
      refine (HCnt.out _ _ _ _ _ _ _ Hg5.out).mono ?_
      rintro e w6 ⟨rfl, hb6⟩
      have HB6 := Lib.hid (HB5.out.trans (hb6.mono HB5.out.size))
      clear hb6
      go_wp2_with fail
      refine (HF.out _).mono ?_
      rintro e w7 ⟨rfl, hw7⟩
      rw [hw7]; clear hw7 w7
      go_wp2
      go_ret
      exact ⟨rfl, HB6.out⟩
    · rw [decide_eq_false hn] at hi2
      rw [show Cv.coverings g n = -1 from if_neg fun h => hn h.2]
      have Hi1 := Lib.hid hi1; have Hi2 := Lib.hid hi2
      clear hg hn hi1 hi2
      go_enter Tryz.func20, Tryz.ntmps20
      go_wp2_with fail
      refine (Hi1.out _).mono ?_
      rintro e w1 ⟨rfl, hw1⟩
      rw [hw1]; clear hw1 w1
      go_wp2_with fail
      refine (Hi2.out _).mono ?_
      rintro e w1 ⟨rfl, hw1⟩
      rw [hw1]; clear hw1 w1
      go_wp2
      go_ret
      exact ⟨rfl, Below.refl _ _⟩
  · rw [decide_eq_false hg] at hi1
    rw [show Cv.coverings g n = -1 from if_neg fun h => hg h.1]
    have Hi1 := Lib.hid hi1
    clear hg hi1 hi2
    go_enter Tryz.func20, Tryz.ntmps20
    go_wp2_with fail
    refine (Hi1.out _).mono ?_
    rintro e w1 ⟨rfl, hw1⟩
    rw [hw1]; clear hw1 w1
    go_wp2
    go_ret
    exact ⟨rfl, Below.refl _ _⟩
end Go.Proofs.YtamgimdjnmcpaaaGreat
