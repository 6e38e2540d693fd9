/-
  The walks of the program's eachRotation, GenusRow, LeastGenus.
-/
import Derived.Test.YtpgdmbolckogcaaBase
import Derived.Test.YtpgdmbolckogcaaSlice
import Derived.Test.YtpgdmbolckogcaaIntRow
import Derived.Test.YtpgdmbolckogcaaInts
import Derived.Test.YtpgdmbolckogcaaOwn
import Derived.Test.YtpgdmbolckogcaaGrid
import Derived.Test.YtpgdmbolckogcaaGridRows
import Derived.Test.YtpgdmbolckogcaaClass
import Derived.Test.YtpgdmbolckogcaaLab
import Derived.Test.YtpgdmbolckogcaaMap
import Derived.Test.YtpgdmbolckogcaaMapB
import Derived.Test.YtpgdmbolckogcaaMapTopo
import Derived.Test.YtpgdmbolckogcaaMapTopo2
import Derived.Test.YtpgdmbolckogcaaGraph
import Derived.Test.YtpgdmbolckogcaaGraphA
import Derived.Test.YtpgdmbolckogcaaGraphRot
import Derived.Test.YtpgdmbolckogcaaGraphEn
import Derived.Test.YtpgdmbolckogcaaGraphB
import Derived.Test.YtpgdmbolckogcaaGraphD
import Derived.Test.YtpgdmbolckogcaaGraphE
import Derived.Test.YtpgdmbolckogcaaGraphF
import Derived.Test.YtpgdmbolckogcaaGraphP
import Derived.Laws.EntriesVeiled
import Derived.Deep.QuietTactic
import Derived.BigQuiet
namespace Go.Proofs.Ytpgdmbolckogcaa
open Go.RowKit

namespace Gr
open Mp (Per)
theorem per_id (n : Nat) : Per id n := ⟨fun _ h => h, fun _ _ _ _ h => h⟩
theorem byDart_few (u : Nat → Nat) {n : Nat} (hn : n ≤ 20) : (byDart u 0 n id).length ≤ 2432902008176640000 := by
  have h := En_len (ls := fun d => at7 u d (u d)) (fun d => at7_len u d (u d)) n 0 id
  rw [Nat.zero_add] at h
  have e : fac 0 = 1 := rfl
  rw [e, Nat.mul_one] at h
  exact Nat.le_trans h (by rw [← fac_20]; exact fac_mono hn)
theorem En_per {u : Nat → Nat} {n : Nat} : ∀ (k d : Nat) (f : Nat → Nat), d + k = n → Per f n → (∀ x, d ≤ x → f x = x) → ∀ h ∈ byDart u d k f, Per h n
  | 0, d, f, _, hp, _, h, hh => by rw [byDart_zero, List.mem_singleton] at hh; rw [hh]; exact hp
  | k + 1, d, f, hn, hp, hf, h, hh => by
    by_cases hl : at7 u d (u d) = []
    · rw [byDart_nil hl] at hh
      exact En_per k (d + 1) f (by omega) hp (fun x hx => hf x (by omega)) h hh
    · rw [byDart_cons hl] at hh
      obtain ⟨b, hb, hh⟩ := List.mem_flatMap.1 hh
      have hbd := (at7_mem.1 hb).1
      refine En_per k (d + 1) _ (by omega) ?_ (fun x hx => ?_) h hh
      · rw [behind_fun (hf d (Nat.le_refl _)) (by omega)]; exact hp.swp (by omega) (by omega)
      · unfold Mp.behind Mp.upd
        rw [if_neg (by omega), if_neg (by omega)]; exact hf x (by omega)
theorem byDart_per (u : Nat → Nat) {L : List (List Int)} (_ : IsG L) : ∀ f ∈ byDart u 0 (2 * L.length) id, Per f (2 * L.length) :=
  En_per _ 0 id (by omega) (per_id _) fun _ _ => rfl
/-- The numbers of rotations by their genus. -/
def grow (L : List (List Int)) : List Nat := hist ((byDart (vx L) 0 (2 * L.length) id).map (genN (2 * L.length)))
def genusRow (L : List (List Int)) : List Int := if IsG L ∧ rots L ≤ 2000 then intsOf (grow L) else []
end Gr

set_option maxRecDepth 10000 in
set_option maxHeartbeats 4000000 in
theorem impl_eachRotation (w0 : World) (L : List (List Int)) (B n c : Nat) (a : Option Addr) (hGr : GridAt w0 a L) (hG : Gr.IsG L) (hn : n = 2 * L.length) (w : World) (hb : Below w0.heap.size w0 w) (hB : w0.heap.size ≤ B) (hbox : Blk w B 27 #[.slice none 0 0]) :
    Calls Try.prog 49 #[.slice a L.length c, .func (.func 50) #[] #[.pointer (some ⟨B, 0, none⟩)]] w fun e w' => e = .returned (.tuple #[]) ∧
      ∃ rv', Blk w' B 27 #[rv'] ∧ w'.ownsRow w0.heap.size 3 1 rv' (Gr.grow L).length (intCells (intsOf (Gr.grow L))) ∧ Below w0.heap.size w0 w' := by
  have hE := fun W => impl_edgesApart a c n L W hn (by have := hG.2.2; omega)
  have hpl := fun rb vb gb pb p g cap W h => impl_place w0 L rb vb gb pb B p g cap n c a hGr hG hn n 0 0 id [] (.slice none 0 0) W rfl (by omega) h (fun _ _ => rfl) (Gr.per_id n) (by
    have := Gr.byDart_few (Gr.vx L) (n := n) (by have := hG.2.2; omega)
    simpa using this)
  have HE := Lib.hid hE; have Hbox := Lib.hid hbox; have Hb := Lib.hid hb; have Hpl := Lib.hid hpl; have Hn := Lib.hid hn
  clear hE hbox hb hpl hn
  go_enter Try.func49, Try.ntmps49
  go_wp2_with fail
  refine (HE.out _).mono ?_
  rintro e w2 ⟨⟨p, rfl, hm⟩, hb2⟩
  have hN : w0.heap.size ≤ w.heap.size := Hb.out.size
  obtain ⟨g, cap, m1, m2, m3, m4, m5⟩ := hm
  have hs1 : ((w.alloc (.cells #[.slice a L.length c] 22)).alloc (.cells #[.func (.func 50) #[] #[.pointer (some ⟨B, 0, none⟩)]] 50)).heap.size = w.heap.size + 2 := by simp
  have e1 : Blk ((w.alloc (.cells #[.slice a L.length c] 22)).alloc (.cells #[.func (.func 50) #[] #[.pointer (some ⟨B, 0, none⟩)]] 50)) w.heap.size 22 #[.slice a L.length c] := (Blk.new w 22 _).alloc _
  have e2 : Blk ((w.alloc (.cells #[.slice a L.length c] 22)).alloc (.cells #[.func (.func 50) #[] #[.pointer (some ⟨B, 0, none⟩)]] 50)) (w.heap.size + 1) 50 #[.func (.func 50) #[] #[.pointer (some ⟨B, 0, none⟩)]] := by
    have h := Blk.new (w.alloc (.cells #[.slice a L.length c] 22)) 50 #[.func (.func 50) #[] #[.pointer (some ⟨B, 0, none⟩)]]
    rw [show (w.alloc (.cells #[.slice a L.length c] 22)).heap.size = w.heap.size + 1 from by simp] at h
    exact h
  have e3 := (Hbox.out.alloc (.cells #[.slice a L.length c] 22)).alloc (.cells #[.func (.func 50) #[] #[.pointer (some ⟨B, 0, none⟩)]] 50)
  have e4 := (Hb.out.alloc hN (.cells #[.slice a L.length c] 22)).alloc (by simp; omega) (.cells #[.func (.func 50) #[] #[.pointer (some ⟨B, 0, none⟩)]] 50)
  have f1 := e1.below hb2 e1.lt
  have f2 := e2.below hb2 e2.lt
  have f3 := e3.below hb2 e3.lt
  have f4 := e4.trans (hb2.mono (by rw [hs1]; omega))
  rw [hs1] at m2 m3
  have hN2 : w0.heap.size ≤ w2.heap.size := f4.size
  have f5 : Blk ((w2.alloc (.cells #[.pointer (some ⟨p, 0, none⟩)] 42)).alloc (.cells #[.func (.func 59) #[] #[.pointer (some ⟨w2.heap.size, 0, none⟩), .pointer (some ⟨w.heap.size + 1, 0, none⟩), .pointer (some ⟨w.heap.size, 0, none⟩), .pointer (some ⟨w2.heap.size + 1, 0, none⟩)]] 53)) (w2.heap.size + 1) 53 #[.func (.func 59) #[] #[.pointer (some ⟨w2.heap.size, 0, none⟩), .pointer (some ⟨w.heap.size + 1, 0, none⟩), .pointer (some ⟨w.heap.size, 0, none⟩), .pointer (some ⟨w2.heap.size + 1, 0, none⟩)]] := by
    have h := Blk.new (w2.alloc (.cells #[.pointer (some ⟨p, 0, none⟩)] 42)) 53 #[.func (.func 59) #[] #[.pointer (some ⟨w2.heap.size, 0, none⟩), .pointer (some ⟨w.heap.size + 1, 0, none⟩), .pointer (some ⟨w.heap.size, 0, none⟩), .pointer (some ⟨w2.heap.size + 1, 0, none⟩)]]
    rw [show (w2.alloc (.cells #[.pointer (some ⟨p, 0, none⟩)] 42)).heap.size = w2.heap.size + 1 from by simp] at h
    exact h
  have hI := fun (o : Obj) (h : Blk ((w2.alloc (.cells #[.pointer (some ⟨p, 0, none⟩)] 42)).alloc o) (w2.heap.size + 1) 53 #[.func (.func 59) #[] #[.pointer (some ⟨w2.heap.size, 0, none⟩), .pointer (some ⟨w.heap.size + 1, 0, none⟩), .pointer (some ⟨w.heap.size, 0, none⟩), .pointer (some ⟨w2.heap.size + 1, 0, none⟩)]]) =>
    (⟨(Blk.new w2 42 _).alloc o, (f2.alloc _).alloc o, (f1.alloc _).alloc o, h, ⟨(m1.alloc _).alloc o, own_mono ((m2.alloc _).alloc o) (by omega), by omega, m4, m5⟩, (f3.alloc _).alloc o, World.ownsRow_nil _ _ _ _, (fun h => by cases h), hB, (f4.alloc hN2 _).alloc (by simp; omega) o, (fun _ h => by cases h)⟩ : RInv w0 w0.heap.size w2.heap.size (w.heap.size + 1) w.heap.size (w2.heap.size + 1) B p g cap n L.length c a id [] (.slice none 0 0) _)
  have HI := Lib.hid (hI _ f5)
  clear e1 e2 e3 e4 f1 f2 f3 f4 f5 hI m1 m2 m3 hb2
  go_wp2_with fail
  refine (Hpl.out _ _ _ _ _ _ _ _ HI.out).mono ?_
  rintro e w3 ⟨rfl, rv', hI3, _⟩
  have HI3 := Lib.hid hI3
  clear hI3
  go_wp2
  refine bodyPost_end (v := .tuple #[]) (by first | kernel_rfl | simp [results, Try.f49]) rfl ⟨rfl, rv', HI3.out.box, ?_, HI3.out.bel⟩
  have h := HI3.out.own
  rw [List.nil_append] at h
  unfold Gr.grow
  rw [← Hn.out]; exact h

set_option maxRecDepth 10000 in
set_option maxHeartbeats 2000000 in
theorem impl_GenusRow (a : Option Addr) (c : Nat) (L : List (List Int)) (w : World) (ha : GridAt w a L) (hl : tot L ≤ 1048576) :
    Calls Try.prog 28 #[.slice a L.length c] w fun e w' => Gives w (Gr.genusRow L) e w' := by
  have hI := impl_IsGraph a c L w ha hl
  by_cases hG : Gr.IsG L
  · rw [decide_eq_true hG] at hI
    have hR := fun W (h : GridAt W a L) => impl_CountRotations a c L W h hl
    have hre : Gr.rots L = ((Gr.rot (Gr.vx L) (2 * L.length) 7 : Nat) : Int) := Gr.rots_yes hG
    have hE := fun B W hb hB hbox => impl_eachRotation w L B (2 * L.length) c a ha hG rfl W hb hB hbox
    by_cases h2 : Gr.rots L ≤ 2000
    · have hv : Gr.genusRow L = intsOf (Gr.grow L) := if_pos ⟨hG, h2⟩
      rw [hv]
      have d2 : ¬ (2000 : Int) < Gr.rots L := by omega
      have HI := Lib.hid hI; have HR := Lib.hid hR; have HE := Lib.hid hE; have Ha := Lib.hid ha
      clear hI hR hE ha hG hre hv h2
      generalize Gr.rots L = z at *
      go_enter Try.func28, Try.ntmps28
      go_wp2_with fail
      refine HI.out.mono ?_
      rintro e w1 ⟨rfl, hb1⟩
      have Hb1 := Lib.hid hb1; clear hb1
      go_wp2_with fail
      refine (HR.out w1 (Ha.out.below Hb1.out)).mono ?_
      rintro e w2 ⟨rfl, hb2⟩
      have Hb2 := Lib.hid (Hb1.out.trans (hb2.mono Hb1.out.size))
      clear hb2
      go_wp2_with fail
      refine (HE.out w2.heap.size _ (Hb2.out.alloc Hb2.out.size _) Hb2.out.size (Blk.new w2 _ _)).mono ?_
      rintro e w3 ⟨rfl, rv, hbx, hown, hb3⟩
      obtain ⟨av, cv, rfl⟩ := own_len hown
      have hcell := hbx.cell 0
      have Hown := Lib.hid hown; have Hb3 := Lib.hid hb3
      clear hbx hown hb3
      go_wp2
      go_ret
      exact own_gives Hown.out (intsOf_len _) Hb3.out
    · have hv : Gr.genusRow L = [] := if_neg fun h => h2 h.2
      rw [hv]
      have d2 : (2000 : Int) < Gr.rots L := by omega
      have HI := Lib.hid hI; have HR := Lib.hid hR; have Ha := Lib.hid ha
      clear hI hR hE ha hG hre hv h2
      generalize Gr.rots L = z at *
      go_enter Try.func28, Try.ntmps28
      go_wp2_with fail
      refine HI.out.mono ?_
      rintro e w1 ⟨rfl, hb1⟩
      have Hb1 := Lib.hid hb1; clear hb1
      go_wp2_with fail
      refine (HR.out w1 (Ha.out.below Hb1.out)).mono ?_
      rintro e w2 ⟨rfl, hb2⟩
      go_wp2
      go_ret
      exact Gives.none (Hb1.out.trans (hb2.mono Hb1.out.size))
  · have hv : Gr.genusRow L = [] := if_neg fun h => hG h.1
    rw [hv]
    rw [decide_eq_false hG] at hI
    have HI := Lib.hid hI
    clear hI hG ha hv
    go_enter Try.func28, Try.ntmps28
    go_wp2_with fail
    refine HI.out.mono ?_
    rintro e w1 ⟨rfl, hb1⟩
    go_wp2
    go_ret
    exact Gives.none hb1

namespace Gr
/-- The first index with a number greater than 0. -/
def leastTo (l : List Int) : Nat → Option Nat
  | 0 => none
  | i + 1 => (leastTo l i).or (if 0 < l.getD i 0 then some i else none)
def least (l : List Int) : Int := match leastTo l l.length with
  | some k => (k : Int)
  | none => -1
def leastOf (L : List (List Int)) : Int := least (genusRow L)
theorem leastTo_some {l : List Int} {k : Nat} : ∀ {i j : Nat}, leastTo l i = some k → i ≤ j → leastTo l j = some k
  | i, 0, h, hj => by obtain rfl : i = 0 := by omega
                      exact h
  | i, j + 1, h, hj => by
    by_cases e : i = j + 1
    · rw [← e]; exact h
    · show (leastTo l j).or _ = _
      rw [leastTo_some h (by omega)]; rfl
theorem least_at {l : List Int} {i : Nat} {x : Int} (h : leastTo l i = none) (hi : l[i]? = some x) (hx : 0 < x) : least l = (i : Int) := by
  obtain ⟨h1, h2⟩ := List.getElem?_eq_some_iff.1 hi
  have e : leastTo l (i + 1) = some i := by
    show (leastTo l i).or _ = _
    rw [h, List.getD_eq_getElem?_getD, hi]
    simp [hx]
  unfold least
  rw [leastTo_some e (by omega)]
theorem least_next {l : List Int} {i : Nat} {x : Int} (h : leastTo l i = none) (hi : l[i]? = some x) (hx : ¬ 0 < x) : leastTo l (i + 1) = none := by
  show (leastTo l i).or _ = _
  rw [h, List.getD_eq_getElem?_getD, hi]
  simp [hx]
theorem least_none {l : List Int} (h : leastTo l l.length = none) : least l = -1 := by unfold least; rw [h]
theorem genusRow_len (L : List (List Int)) : (genusRow L).length ≤ 200 := by
  unfold genusRow
  split
  · rename_i h
    rw [intsOf_len]
    unfold grow
    refine hist_most fun x hx => ?_
    obtain ⟨f, hf, rfl⟩ := List.mem_map.1 hx
    exact genN_small (byDart_per (vx L) h.1 f hf) (by have := h.1.2.1; omega) (by have := h.1.2.2; omega) (by omega)
  · simp
end Gr

set_option maxRecDepth 10000 in
set_option maxHeartbeats 1000000 in
theorem impl_LeastGenus (a : Option Addr) (c : Nat) (L : List (List Int)) (w : World) (ha : GridAt w a L) (hl : tot L ≤ 1048576) :
    Calls Try.prog 30 #[.slice a L.length c] w fun e w' => e = .returned (.int .i64 (Gr.leastOf L)) ∧ Below w.heap.size w w' := by
  have hR := impl_GenusRow a c L w ha hl
  have hln := Gr.genusRow_len L
  unfold Gr.leastOf
  generalize Gr.genusRow L = l at *
  obtain ⟨z, hz⟩ : ∃ z, Gr.least l = z := ⟨_, rfl⟩
  rw [hz]
  have HR := Lib.hid hR; have Hz := Lib.hid hz
  clear hR ha hz
  go_enter Try.func30, Try.ntmps30
  go_wp2_with fail
  refine HR.out.mono ?_
  rintro e w1 hg1
  obtain ⟨a1, c1, rfl, _, _, hf1, hb1⟩ := hg1
  have Hrow := Lib.hid hf1.row; have Hb1 := Lib.hid hb1
  clear hf1 hb1
  go_wp2
  go_loopw [3, 4, 8] (fun _ _ iv wr => ∃ i : Nat, i ≤ l.length ∧ iv = .int .i64 i ∧ wr = w1 ∧ Hid (Gr.leastTo l i = none)) (fun _ _ iv _ => l.length - (intOf iv).toNat)
  case atStart => exact ⟨0, Nat.zero_le _, rfl, rfl, Lib.hid rfl⟩
  case round =>
    obtain ⟨i, hi, rfl, hw, hno⟩ := hrel
    subst hw
    by_cases hlt : i < l.length
    · obtain ⟨x, hx⟩ := get_some hlt
      obtain ⟨b, o, rfl, hbw, hcell⟩ := intCells_get? Hrow.out hx
      have h0i : (0 : Int) ≤ (i : Int) := by omega
      have h1i : (i : Int) < (l.length : Int) := by omega
      have h2i : (i : Int) ≤ 200 := by omega
      by_cases hp : 0 < x
      · have hv : z = (i : Int) := by rw [← Hz.out]; exact Gr.least_at hno.out hx hp
        have Hv := Lib.hid hv
        clear hx hv
        go_wp2
        go_ret
        exact ⟨by rw [Hv.out]; rfl, Hb1.out⟩
      · have Hn := Lib.hid (Gr.least_next hno.out hx hp)
        have Hlt := Lib.hid hlt
        clear hx hlt
        go_wp2
        go_roundw
        case rel => exact ⟨i + 1, Hlt.out, by go_num, trivial, Hn⟩
        case measure => have := Hlt.out; simp [intOf] <;> omega
    · obtain rfl : i = l.length := by omega
      have hv : z = -1 := by rw [← Hz.out]; exact Gr.least_none hno.out
      have Hv := Lib.hid hv
      clear hv hlt
      go_wp2
      go_ret
      exact ⟨by rw [Hv.out]; rfl, Hb1.out⟩
end Go.Proofs.Ytpgdmbolckogcaa
