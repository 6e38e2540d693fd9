/-
  Connected parts: what the document says, and the walks of the program's and the model's PartsOf.
-/
import Derived.Test.YtodgongemoabiaaDoorBase
import Derived.Test.YtodgongemoabiaaDoorSlice
import Derived.Test.YtodgongemoabiaaDoorInts
import Derived.Test.YtodgongemoabiaaDoorWord
import Derived.Test.YtodgongemoabiaaDoorGrid
import Derived.Test.YtodgongemoabiaaDoorGlue
import Derived.Test.YtodgongemoabiaaDoorIsWord
import Derived.Test.YtodgongemoabiaaDoorUses
import Derived.Test.YtodgongemoabiaaDoorIsGluing
import Derived.Test.YtodgongemoabiaaDoorOwn
import Derived.Test.YtodgongemoabiaaDoorLetters
import Derived.Test.YtodgongemoabiaaDoorClass
import Derived.Test.YtodgongemoabiaaDoorTri
import Derived.Test.YtodgongemoabiaaDoorLab
import Derived.Test.YtodgongemoabiaaDoorEnds
import Derived.Test.YtodgongemoabiaaDoorVert
import Derived.StillTailTactics
import Derived.Deep.QuietTactic
import Derived.BigQuiet
namespace Go.Proofs.YtodgongemoabiaaDoor
open Go.RowKit

namespace Glue
/-- A letter is a side of a polygon, counting inverses. -/
def has (r : List Int) (x : Nat) : Bool := r.any fun y => y.natAbs == x
theorem has_iff {r : List Int} {x : Nat} : has r x = true ↔ ∃ y ∈ r, y.natAbs = x := by simp [has]
def share (L : List (List Int)) (p q x : Nat) : Bool := has (L.getD p []) x && has (L.getD q []) x
/-- The parts, by polygons. -/
def ring (L : List (List Int)) : Nat → Nat := Cls.mergeAll (Cls.tri (share L) 9 L.length 0 0)
def parts (L : List (List Int)) : Nat := Cls.tally (ring L) (List.range L.length)
def numParts (L : List (List Int)) : Int := if IsG L then (parts L : Int) else -1
theorem ring_ok (L : List (List Int)) : Cls.Ok (ring L) L.length := Cls.Ok.all Cls.tri_lt
theorem getD_at {L : List (List Int)} {i : Nat} {r : List Int} (h : L[i]? = some r) : L.getD i [] = r := by rw [List.getD_eq_getElem?_getD, h]; rfl
theorem has_zero {L : List (List Int)} (h : ∀ p ∈ L, Word.IsW p) (p : Nat) : has (L.getD p []) 0 = false := by
  rw [Bool.eq_false_iff]
  intro he
  obtain ⟨y, hy, e⟩ := has_iff.1 he
  rcases Nat.lt_or_ge p L.length with hp | hp
  · rw [getD_at (List.getElem?_eq_getElem hp)] at hy
    have := ((h _ (List.getElem_mem hp)).1 y hy).1
    omega
  · rw [List.getD_eq_getElem?_getD, List.getElem?_eq_none hp] at hy
    cases hy
theorem has_lt {L : List (List Int)} (h : ∀ p ∈ L, Word.IsW p) {p x : Nat} (he : has (L.getD p []) x = true) : p < L.length ∧ x < 9 := by
  obtain ⟨y, hy, e⟩ := has_iff.1 he
  rcases Nat.lt_or_ge p L.length with hp | hp
  · rw [getD_at (List.getElem?_eq_getElem hp)] at hy
    obtain ⟨_, _, _⟩ := (h _ (List.getElem_mem hp)).1 y hy
    exact ⟨hp, by omega⟩
  · rw [List.getD_eq_getElem?_getD, List.getElem?_eq_none hp] at hy
    cases hy
/-- Polygons with a common letter are of one part. -/
theorem ring_share {L : List (List Int)} (h : ∀ p ∈ L, Word.IsW p) {i j x : Nat} (hi : has (L.getD i []) x = true) (hj : has (L.getD j []) x = true) : ring L i = ring L j := by
  have h1 := has_lt h hi
  have h2 := has_lt h hj
  have key : ∀ a b, b < a → has (L.getD a []) x = true → has (L.getD b []) x = true → a < L.length → ring L a = ring L b := fun a b hba ha hb hl =>
    Cls.eq_of_mem (Cls.tri_mem.2 ⟨hl, hba, x, h1.2, by unfold share; rw [ha, hb]; rfl⟩)
  rcases Nat.lt_trichotomy i j with hlt | rfl | hlt
  · exact (key j i hlt hj hi h2.1).symm
  · rfl
  · exact key i j hlt hi hj h1.1
/-- The program's way: each side with the first of its polygon. -/
def firstOf (r : List Int) (j : Nat) : Nat × Nat := ((r.getD j 0).natAbs, (r.getD 0 0).natAbs)
def letterCls (L : List (List Int)) : Nat → Nat := Cls.mergeAll (metAll firstOf L)
theorem firstOf_at {r : List Int} {j : Nat} {x y : Int} (hx : r[j]? = some x) (hy : r[0]? = some y) : firstOf r j = (x.natAbs, y.natAbs) := by
  unfold firstOf
  rw [List.getD_eq_getElem?_getD, hx, List.getD_eq_getElem?_getD, hy]; rfl
theorem firstOf_lt {L : List (List Int)} (h : ∀ p ∈ L, Word.IsW p) : ∀ p ∈ metAll firstOf L, p.1 < 9 ∧ p.2 < 9 := by
  intro p hp
  obtain ⟨r, hr, j, hj, rfl⟩ := met_mem hp
  have h0 : 0 < r.length := by omega
  rw [firstOf_at (List.getElem?_eq_getElem hj) (List.getElem?_eq_getElem h0)]
  obtain ⟨_, _, _⟩ := (h r hr).at hj
  obtain ⟨_, _, _⟩ := (h r hr).at h0
  exact ⟨by show (r[j]).natAbs < 9; omega, by show (r[0]).natAbs < 9; omega⟩
theorem met_in {β : Type} {f : List Int → Nat → β} {L : List (List Int)} {r : List Int} (hr : r ∈ L) {j : Nat} (hj : j < r.length) : f r j ∈ metAll f L := by
  unfold metAll
  rw [List.mem_flatMap]
  exact ⟨r, hr, List.mem_map.2 ⟨j, List.mem_range.2 hj, rfl⟩⟩
/-- The first letter of a polygon. -/
def lead (L : List (List Int)) (p : Nat) : Nat := ((L.getD p []).getD 0 0).natAbs
theorem has_lead {L : List (List Int)} (h : IsG L) {p : Nat} (hp : p < L.length) : has (L.getD p []) (lead L p) = true := by
  have e := List.getElem?_eq_getElem hp
  have hr := h.2.2.1 _ (List.getElem_mem hp)
  have h0 : 0 < L[p].length := List.length_pos_iff.2 hr.1
  unfold lead
  rw [getD_at e, List.getD_eq_getElem?_getD, List.getElem?_eq_getElem h0]
  exact has_iff.2 ⟨L[p][0], List.getElem_mem h0, rfl⟩
/-- A letter of a polygon is in the class of the polygon's first. -/
theorem cls_lead {L : List (List Int)} {p x : Nat} (hx : has (L.getD p []) x = true) (h : ∀ p ∈ L, Word.IsW p) : letterCls L x = letterCls L (lead L p) := by
  have hp := (has_lt h hx).1
  obtain ⟨y, hy, rfl⟩ := has_iff.1 hx
  have e := List.getElem?_eq_getElem hp
  rw [getD_at e] at hy
  obtain ⟨j, hj, rfl⟩ := List.mem_iff_getElem.1 hy
  have h0 : 0 < L[p].length := by omega
  unfold lead
  rw [getD_at e, List.getD_eq_getElem?_getD, List.getElem?_eq_getElem h0]
  refine Cls.eq_of_mem ?_
  have := met_in (f := firstOf) (List.getElem_mem hp) hj
  rw [firstOf_at (List.getElem?_eq_getElem hj) (List.getElem?_eq_getElem h0)] at this
  exact this
theorem parts_ker {L : List (List Int)} (h : IsG L) {p q : Nat} (hp : p < L.length) (hq : q < L.length) : ring L p = ring L q ↔ letterCls L (lead L p) = letterCls L (lead L q) := by
  constructor
  · intro e
    refine Cls.ker_le (F := fun p => letterCls L (lead L p)) (fun ab hab => ?_) e
    obtain ⟨h1, h2, x, _, hs⟩ := Cls.tri_mem.1 hab
    unfold share at hs
    rw [Bool.and_eq_true] at hs
    show letterCls L (lead L ab.1) = letterCls L (lead L ab.2)
    rw [← cls_lead hs.1 h.w, ← cls_lead hs.2 h.w]
  · intro e
    classical
    let F : Nat → Nat := fun x => if hx : ∃ i, has (L.getD i []) x = true then ring L (Classical.choose hx) else 0
    have hF : ∀ i x, has (L.getD i []) x = true → F x = ring L i := fun i x hi => by
      have hx : ∃ i, has (L.getD i []) x = true := ⟨i, hi⟩
      show (if hx : ∃ i, has (L.getD i []) x = true then ring L (Classical.choose hx) else 0) = _
      rw [dif_pos hx]
      exact ring_share h.w (Classical.choose_spec hx) hi
    have := Cls.ker_le (F := F) (l := metAll firstOf L) (fun ab hab => by
      obtain ⟨r, hr, j, hj, rfl⟩ := met_mem hab
      obtain ⟨i, hi, rfl⟩ := List.mem_iff_getElem.1 hr
      have h0 : 0 < L[i].length := by omega
      rw [firstOf_at (List.getElem?_eq_getElem hj) (List.getElem?_eq_getElem h0)]
      have e := List.getElem?_eq_getElem hi
      rw [hF i _ (by rw [getD_at e]; exact has_iff.2 ⟨_, List.getElem_mem hj, rfl⟩), hF i _ (by rw [getD_at e]; exact has_iff.2 ⟨_, List.getElem_mem h0, rfl⟩)]) e
    rw [hF p _ (has_lead h hp), hF q _ (has_lead h hq)] at this
    exact this
theorem letter_has {L : List (List Int)} {x : Nat} (hx : x ∈ lettersN L 1 2) : ∃ p, p < L.length ∧ has (L.getD p []) x = true := by
  obtain ⟨h1, h2⟩ := List.mem_filter.1 hx
  have h9 := List.mem_range.1 h1
  simp only [decide_eq_true_eq] at h2
  have hc := count_get L.flatten x h9
  unfold uses at h2
  have hpos : 0 < (L.flatten.filter fun y => y.natAbs == x).length := by omega
  obtain ⟨y, hy⟩ := List.exists_mem_of_length_pos hpos
  obtain ⟨hy1, hy2⟩ := List.mem_filter.1 hy
  obtain ⟨r, hr, hyr⟩ := List.mem_flatten.1 hy1
  obtain ⟨i, hi, rfl⟩ := List.mem_iff_getElem.1 hr
  exact ⟨i, hi, by rw [getD_at (List.getElem?_eq_getElem hi)]; exact has_iff.2 ⟨y, hyr, by simpa using hy2⟩⟩
theorem parts_found {L : List (List Int)} (h : IsG L) : (Cls.found (letterCls L) (lettersN L 1 2)).length = parts L := by
  unfold parts
  rw [Cls.tally_range (ring_ok L)]
  refine Eq.trans ?_ (Cls.found_ker (f := fun p => letterCls L (lead L p)) (fun i hi j hj => (parts_ker h (List.mem_range.1 hi) (List.mem_range.1 hj)).symm))
  refine Cls.found_same fun v => ⟨?_, ?_⟩
  · rintro ⟨x, hx, rfl⟩
    obtain ⟨p, hp, hh⟩ := letter_has hx
    exact ⟨p, List.mem_range.2 hp, (cls_lead hh h.w).symm⟩
  · rintro ⟨p, hp, rfl⟩
    have hp' := List.mem_range.1 hp
    obtain ⟨y, hy, e⟩ := has_iff.1 (has_lead h hp')
    rw [getD_at (List.getElem?_eq_getElem hp')] at hy
    exact ⟨lead L p, e ▸ occurs h (List.getElem_mem hp') hy, rfl⟩
theorem parts_le (L : List (List Int)) : parts L ≤ L.length := by
  have := Cls.tally_le (ring L) (List.range L.length)
  rwa [List.length_range] at this
end Glue

set_option maxRecDepth 10000 in
set_option maxHeartbeats 1000000 in
theorem spec_l3Has (a : Option Addr) (c : Nat) (r : List Int) (x : Nat) (z : Int) (hz : z = ((x : Nat) : Int)) (w : World) (ha : RowAt w a (intCells r)) (hw : Word.IsW r) (hx : x < 100) :
    Calls Tryd.prog 72 #[.slice a r.length c, .int .i64 z] w fun e w' => e = .returned (.bool (Glue.has r x)) ∧ w' = w := by
  subst hz
  have Ha := Lib.hid ha; have Hw := Lib.hid hw
  have hl24 := hw.2
  generalize hv : Glue.has r x = v
  have Hv := Lib.hid hv
  clear ha hw hv
  go_enter Tryd.func72, Tryd.ntmps72
  go_wp2
  go_loopw [4, 5] (fun rv iv wr => rv = .bool false ∧ ∃ i : Nat, i ≤ r.length ∧ iv = .int .i64 i ∧ Hid (∀ j (hj : j < r.length), j < i → (r[j]).natAbs ≠ x) ∧ wr = w) (fun _ iv _ => r.length - (intOf iv).toNat)
  case atStart => exact ⟨rfl, 0, by omega, rfl, Lib.hid (fun _ _ h => by omega), rfl⟩
  case round =>
    obtain ⟨rfl, i, hi, rfl, hno, rfl⟩ := hrel
    by_cases hlt : i < r.length
    · obtain ⟨b, o, rfl, hbw, hcell⟩ := intCells_at Ha.out hlt
      obtain ⟨hy0, hy1, hy2⟩ := Hw.out.at hlt
      have habs := spec_l3Abs r[i] wr (by omega) (by omega)
      have hin : r[i].natAbs = x → v = true := fun h => by rw [← Hv.out]; exact Glue.has_iff.2 ⟨_, List.getElem_mem hlt, h⟩
      have hnext : r[i].natAbs ≠ x → ∀ j (hj : j < r.length), j < i + 1 → (r[j]).natAbs ≠ x := fun h j hj hji => by
        rcases Nat.lt_or_ge j i with h2 | h2
        · exact hno.out j hj h2
        · obtain rfl : j = i := by omega
          exact h
      generalize r[i] = y at *
      generalize y.natAbs = ya at *
      have Habs := Lib.hid habs; have Hin := Lib.hid hin; have Hnext := Lib.hid hnext
      clear habs hin hnext hno hy0 hy1 hy2
      by_cases he : ya = x
      · have heq : ((ya : Int) == (x : Int)) = true := by rw [he]; simp
        have hvt := Lib.hid (Hin.out he)
        clear he
        go_wp2_with fail
        refine Habs.out.mono ?_
        rintro e w1 ⟨rfl, rfl⟩
        go_wp2
        go_ret
        exact ⟨by rw [hvt.out]; rfl, rfl⟩
      · have heq : ((ya : Int) == (x : Int)) = false := beq_eq_false_iff_ne.2 (by omega)
        have hnx := Lib.hid (Hnext.out he)
        clear he
        go_wp2_with fail
        refine Habs.out.mono ?_
        rintro e w1 ⟨rfl, rfl⟩
        go_wp2
        go_roundw
        case rel => exact ⟨rfl, i + 1, by omega, by go_num, hnx, trivial⟩
        case measure => simp [intOf]; omega
    · obtain rfl : i = r.length := by omega
      have hvf : v = false := by
        rw [← Hv.out, Bool.eq_false_iff]
        intro he
        obtain ⟨y, hy, e⟩ := Glue.has_iff.1 he
        obtain ⟨j, hj, rfl⟩ := List.mem_iff_getElem.1 hy
        exact hno.out j hj hj e
      have Hf := Lib.hid hvf
      clear hvf
      go_wp2
      go_ret
      exact ⟨by rw [Hf.out]; rfl, rfl⟩

set_option maxRecDepth 10000 in
set_option maxHeartbeats 2000000 in
theorem impl_PartsOf (a : Option Addr) (c : Nat) (L : List (List Int)) (w : World) (ha : GridAt w a L) (hl : tot L ≤ 1048576) :
    Calls Tryd.prog 38 #[.slice a L.length c] w fun e w' => e = .returned (.int .i64 (Glue.numParts L)) ∧ Below w.heap.size w w' := by
  have hG := impl_IsGluing a c L w ha hl
  generalize hv : Glue.numParts L = V
  unfold Glue.numParts at hv
  have Ha := Lib.hid ha
  by_cases hg : Glue.IsG L
  · rw [if_pos hg, ← Glue.parts_found hg] at hv
    rw [decide_eq_true hg] at hG
    have hE := fun W (h : GridAt W a L) => impl_EdgeLetters a c L W h hl
    rw [Glue.edgeLetters_N hg] at hE
    have hlt := fun k => Glue.lettersN_lt (L := L) (lo := 1) (hi := 2) (k := k)
    have hlen := Glue.lettersN_len L 1 2
    have hl4 := hg.2.1
    have HG := Lib.hid hG; have HE := Lib.hid hE; have Hlt := Lib.hid hlt; have Hw := Lib.hid hg.w; have Hv := Lib.hid hv
    clear hG hE hg ha hlt hv
    generalize Glue.lettersN L 1 2 = K at *
    generalize hN : w.heap.size = N at *
    have HN := Lib.hid hN
    go_enter Tryd.func38, Tryd.ntmps38
    go_wp2_with fail
    refine HG.out.mono ?_
    rintro e w1 ⟨rfl, hb1⟩
    have hnew := impl_newClasses 9 w1 (by omega)
    have hN1 : N ≤ w1.heap.size := by have := hb1.size; rw [HN.out] at this; exact this
    generalize hM : w1.heap.size = M at *
    have HM := Lib.hid hM; have Hnew := Lib.hid hnew
    clear hnew
    go_wp2_with fail
    refine Hnew.out.mono ?_
    rintro e w2 ⟨rfl, hk, hb2⟩
    have Hk := Lib.hid hk; have Hb := Lib.hid (hb1.trans (hb2.mono hN1)); have HN1 := Lib.hid hN1
    clear hk hb1 hb2 hN1
    go_wp2
    go_loopw [5, 7, 14] (fun _ _ iv wr => ∃ i : Nat, i ≤ L.length ∧ iv = .int .i64 i ∧ Below N w wr ∧ Hid (Lab wr M (Cls.mergeAll (met Glue.firstOf L i 0)) 9)) (fun _ _ iv _ => L.length - (intOf iv).toNat)
    case atStart => exact ⟨0, by omega, rfl, Hb.out, Lib.hid (by rw [met_zero]; exact Hk.out)⟩
    case round =>
      obtain ⟨i, hi, rfl, hb, hk⟩ := hrel
      by_cases hlti : i < L.length
      · obtain ⟨r, hr⟩ := get_some hlti
        have Hr := Lib.hid hr
        have hwi := Hw.out r (get_mem hr)
        have hll : r.length ≤ 24 := hwi.2
        have Hwi := Lib.hid hwi
        clear hr hwi
        obtain ⟨b, o, ai, ci, rfl, hbw, hcell0, hrow⟩ := Ha.out.get Hr.out
        have hcell : wr.cell? ⟨b, o + i, none⟩ = some (.slice ai r.length ci) := by rw [hb.cell (by rw [← HN.out]; exact hbw)]; exact hcell0
        have Hrow := Lib.hid hrow
        have Hb2 := Lib.hid hb
        clear hcell0 hbw hrow hb
        go_wp2
        go_loopw [7, 20] (fun _ jv w2 => ∃ j : Nat, j ≤ r.length ∧ jv = .int .i64 j ∧ Hid (Below N w w2) ∧ Hid (Lab w2 M (Cls.mergeAll (met Glue.firstOf L i j)) 9)) (fun _ jv _ => r.length - (intOf jv).toNat)
        case atStart => exact ⟨0, by omega, rfl, Hb2, hk⟩
        case round =>
          clear hk
          obtain ⟨j, hj, rfl, hb, hk⟩ := hrel
          by_cases hjt : j < r.length
          · obtain ⟨x, hx⟩ := get_some hjt
            obtain ⟨y, hy⟩ := get_some (show 0 < r.length by omega)
            have hrw := Hrow.out.below (by rw [HN.out]; exact hb.out)
            obtain ⟨b', o', rfl, hbw', hcell'⟩ := intCells_get? hrw hx
            obtain ⟨b'', o'', e2, _, hcell''⟩ := intCells_get? hrw hy
            cases e2
            rw [Nat.add_zero] at hcell''
            have hstep := met_step (f := Glue.firstOf) j Hr.out
            rw [Glue.firstOf_at hx hy] at hstep
            obtain ⟨hx0, hx1, hx2⟩ := Hwi.out.1 x (get_mem hx)
            obtain ⟨hy0, hy1, hy2⟩ := Hwi.out.1 y (get_mem hy)
            have hax := fun W => impl_edgeOf x W (by omega) (by omega)
            have hay := fun W => impl_edgeOf y W (by omega) (by omega)
            have hmr := fun za zb h1 h2 W hg => impl_mergeClasses M 9 9 (Cls.mergeAll (met Glue.firstOf L i j)) x.natAbs y.natAbs za zb h1 h2 W hg (by omega) (by omega) (by omega)
            rw [← Cls.mergeAll_snoc, ← hstep] at hmr
            generalize x.natAbs = xa at *
            generalize y.natAbs = ya at *
            have hrl : (0 : Int) < (r.length : Int) := by omega
            have hrn : 0 < r.length := by omega
            have Hax := Lib.hid hax; have Hay := Lib.hid hay; have Hmr := Lib.hid hmr; have Hkl := Lib.hid hk.out
            clear hstep hax hay hmr hrw hx hy hbw' hx0 hx1 hx2 hy0 hy1 hy2
            go_wp2
            go_still_tail 7, (by kernel_rfl)
            still_call (Hax.out _)
            repeat still_step
            still_call (Hay.out _)
            repeat still_step
            refine wpStill_nil ?_
            change wpList _ _ _ _ _ wr.drew
            have Hkd : Hid (Lab wr.drew M (Cls.mergeAll (met Glue.firstOf L i j)) 9) := Lib.hid (Hkl.out.drewN 1)
            have Hbd : Hid (Below N w wr.drew) := Lib.hid (below_drewN hb.out 1)
            generalize wr.drew = W0 at *
            clear hcell' hcell''
            go_wp2_with fail
            refine (Hmr.out _ _ rfl rfl _ Hkd.out).mono ?_
            rintro e w2 ⟨rfl, hk2, hg2⟩
            have Hk2 := Lib.hid hk2; have Hg2 := Lib.hid hg2
            clear hk2 hg2
            go_wp2
            go_roundw
            case rel => exact ⟨j + 1, by omega, by go_num, Lib.hid (Hbd.out.grown Hg2.out (by have := Hbd.out.size; rw [HN.out] at this; exact this) (fun k hk => by cases hk; exact HN1.out)), Hk2⟩
            case measure => simp [intOf]; omega
          · obtain rfl : j = r.length := by omega
            rw [met_next Hr.out] at hk
            go_wp2
            go_roundw
            case rel => exact ⟨i + 1, by omega, by go_num, hb.out, hk⟩
            case measure => simp [intOf]; omega
      · obtain rfl : i = L.length := by omega
        rw [met_end] at hk
        have Hb3 := Lib.hid hb; have Hlab := Lib.hid (show Lab wr M (Glue.letterCls L) 9 from hk.out)
        clear hb hk
        generalize Glue.letterCls L = lc at *
        go_wp2_with fail
        refine (HE.out wr (Ha.out.below (by rw [HN.out]; exact Hb3.out))).mono ?_
        rintro e w4 ⟨ra, rc, rfl, h1, h2, h3, h4⟩
        rw [intsOf_len]
        have hcc := impl_countClasses (some ⟨M, 0, none⟩) ra 9 rc 9 lc K w4 (Hlab.out.row.below h4) h3.row Hlt.out (by omega) (by omega)
        have Hcc := Lib.hid hcc; have H4 := Lib.hid h4
        clear hcc h1 h2 h3 h4
        go_wp2_with fail
        refine Hcc.out.mono ?_
        rintro e w5 ⟨rfl, hb5⟩
        rw [Hv.out]
        go_wp2
        go_ret
        have hb45 := H4.out.trans (hb5.mono H4.out.size)
        exact ⟨rfl, Hb3.out.trans (hb45.mono (by have := Hb3.out.size; rw [HN.out] at this; exact this))⟩
  · rw [if_neg hg] at hv
    rw [decide_eq_false hg] at hG
    have HG := Lib.hid hG; have Hv := Lib.hid hv
    clear hG hg ha hv
    go_enter Tryd.func38, Tryd.ntmps38
    go_wp2_with fail
    refine HG.out.mono ?_
    rintro e w1 ⟨rfl, hb1⟩
    go_wp2
    go_ret
    exact ⟨by rw [← Hv.out]; rfl, hb1⟩

set_option maxRecDepth 10000 in
set_option maxHeartbeats 2000000 in
theorem spec_PartsOf (a : Option Addr) (c : Nat) (L : List (List Int)) (w : World) (ha : GridAt w a L) (hl : tot L ≤ 1048576) :
    Calls Tryd.prog 42 #[.slice a L.length c] w fun e w' => e = .returned (.int .i64 (Glue.numParts L)) ∧ Below w.heap.size w w' := by
  have hG := spec_IsGluing a c L w ha hl
  generalize hv : Glue.numParts L = V
  unfold Glue.numParts at hv
  have Ha := Lib.hid ha
  by_cases hg : Glue.IsG L
  · rw [if_pos hg] at hv
    unfold Glue.parts at hv
    rw [decide_eq_true hg] at hG
    have hl4 := hg.2.1
    have hl1 := hg.1
    obtain ⟨i0, hi0, hz0, hz1, hz2⟩ := info_int_parts
    have Hi0 := Lib.hid hi0; have Hz0 := Lib.hid hz0; have Hz1 := Lib.hid hz1; have Hz2 := Lib.hid hz2
    have HG := Lib.hid hG; have Hw := Lib.hid hg.w; have Hv := Lib.hid hv
    clear hG hg ha hv hi0 hz0 hz1 hz2
    generalize hN : w.heap.size = N at *
    have HN := Lib.hid hN
    go_enter Tryd.func42, Tryd.ntmps42
    go_wp2_with fail
    refine HG.out.mono ?_
    rintro e w1 ⟨rfl, hb1⟩
    have hN1 : N ≤ w1.heap.size := by have := hb1.size; rw [HN.out] at this; exact this
    have Hb1 := Lib.hid (hb1.alloc hN1 (.cells #[] 3)); have Hmd := Lib.hid (own_mono (own_made (w := w1) rfl) hN1)
    clear hb1 hN1
    go_wp2
    go_loopw [3, 4] (fun ov iv wr => ∃ i : Nat, i ≤ L.length ∧ iv = .int .i64 i ∧ Below N w wr ∧ wr.ownsRow N 3 1 ov i (intCells (intsOf (List.range i)))) (fun _ iv _ => L.length - (intOf iv).toNat)
    case atStart => exact ⟨0, by omega, rfl, Hb1.out, Hmd.out⟩
    case round =>
      obtain ⟨i, hi, rfl, hb, hown⟩ := hrel
      by_cases hlti : i < L.length
      · have hNle : N ≤ wr.heap.size := by have := hb.size; rw [HN.out] at this; exact this
        have hst : List.range (i + 1) = List.range i ++ [i] := List.range_succ
        have Hst := Lib.hid hst
        obtain ⟨av, cv, rfl⟩ := own_len hown
        have hm1 : i + 1 ≤ maxLen := by unfold maxLen; omega
        have hm2 : (i + 1) * 8 ≤ 140737488355328 := by omega
        generalize List.range i = X at *
        generalize hY : List.range (i + 1) = Y at *
        have HY := Lib.hid hY
        clear hY hst
        go_wp2_with (at_builtin; refine append_one rfl (.tmp 20) (.tmp 22) 46 rfl N 3 i0 _ 8 Tryd.underlying46 Hi0.out Hz0.out Hz1.out Hz2.out (by rfl) _ _ _ rfl hown (by rfl) _ rfl hm1 hm2 hNle ?_; intro v1 w1 hown1 hg1 _)
        go_roundw
        case rel =>
          refine ⟨i + 1, by omega, by go_num, Below.grown (hb.alloc hNle _) hg1 (by simp; omega) (fun k hk => (hown.lt k hk).1), ?_⟩
          rw [HY.out, Hst.out, intsOf_snoc, ← intCells_snoc]; exact hown1
        case measure => simp [intOf]; omega
      · obtain rfl : i = L.length := by omega
        obtain ⟨g, cap, rfl, hgN, hcap, hlab⟩ := own_lab hown (by simp) (by omega)
        have hlab0 : Lab wr g id L.length := hlab.congr (fun k hk => by simp [List.getD_eq_getElem?_getD, hk])
        have Hlab := Lib.hid hlab0; have HgN := Lib.hid hgN; have Hb := Lib.hid hb
        clear hlab hlab0 hown hgN hb
        go_wp2
        go_loopw [5, 6, 7] (fun iv _ _ wr => ∃ i : Nat, i ≤ L.length ∧ iv = .int .i64 i ∧ Hid (Below N w wr) ∧ Hid (∃ u d, Lab wr g u L.length ∧ Cls.Up u (Cls.mergeAll (Cls.tri (Glue.share L) 9 i 0 0)) d L.length)) (fun iv _ _ _ => L.length - (intOf iv).toNat)
        case atStart => exact ⟨0, by omega, rfl, Hb, Lib.hid ⟨id, _, Hlab.out, by rw [Cls.tri_zero]; exact Cls.Up.start _⟩⟩
        case round =>
          clear Hb Hlab
          obtain ⟨i, hi, rfl, hb, hk⟩ := hrel
          by_cases hlti : i < L.length
          · go_wp2
            go_loopw [6, 7] (fun jv _ wr => ∃ j : Nat, j ≤ i ∧ jv = .int .i64 j ∧ Hid (Below N w wr) ∧ Hid (∃ u d, Lab wr g u L.length ∧ Cls.Up u (Cls.mergeAll (Cls.tri (Glue.share L) 9 i j 0)) d L.length)) (fun jv _ _ => i - (intOf jv).toNat)
            case atStart => exact ⟨0, by omega, rfl, hb, hk⟩
            case round =>
              clear hb hk
              obtain ⟨j, hj, rfl, hb, hk⟩ := hrel
              by_cases hltj : j < i
              · have hk1 : Hid (∃ u d, Lab wr g u L.length ∧ Cls.Up u (Cls.mergeAll (Cls.tri (Glue.share L) 9 i j 1)) d L.length) := by
                  rw [Cls.tri_no (by unfold Glue.share; rw [Glue.has_zero Hw.out]; rfl)]; exact hk
                clear hk
                go_wp2
                go_loopw [7] (fun xv wr => ∃ x : Nat, 1 ≤ x ∧ x ≤ 9 ∧ xv = .int .i64 x ∧ Hid (Below N w wr) ∧ Hid (∃ u d, Lab wr g u L.length ∧ Cls.Up u (Cls.mergeAll (Cls.tri (Glue.share L) 9 i j x)) d L.length)) (fun xv _ => 9 - (intOf xv).toNat)
                case atStart => exact ⟨1, by omega, by omega, rfl, hb, hk1⟩
                case round =>
                  clear hb hk1
                  obtain ⟨x, hx1, hx9, rfl, hb, hk⟩ := hrel
                  by_cases hltx : x ≤ 8
                  · obtain ⟨p, hp⟩ := get_some hlti
                    obtain ⟨q, hq⟩ := get_some (show j < L.length by omega)
                    have hgr := Ha.out.below (by rw [HN.out]; exact hb.out)
                    obtain ⟨b, o, ai, ci, rfl, hbw, hcell, hrow⟩ := hgr.get hp
                    obtain ⟨b', o', aj, cj, e2, hbw', hcell', hrow'⟩ := hgr.get hq
                    cases e2
                    have hhp := spec_l3Has ai ci p x (x : Int) rfl wr hrow (Hw.out p (get_mem hp)) (by omega)
                    have hhq := spec_l3Has aj cj q x (x : Int) rfl wr hrow' (Hw.out q (get_mem hq)) (by omega)
                    have hsh : Glue.share L i j x = (Glue.has p x && Glue.has q x) := by unfold Glue.share; rw [Glue.getD_at hp, Glue.getD_at hq]
                    have hyes := fun h => Cls.tri_yes (S := Glue.share L) (m := 9) (i := i) (j := j) (e := x) h
                    have hno := fun h => Cls.tri_no (S := Glue.share L) (m := 9) (i := i) (j := j) (e := x) h
                    rw [hsh] at hyes hno
                    have hxc : (x : Int) ≤ 8 := by omega
                    generalize Glue.has p x = bp at *
                    generalize Glue.has q x = bq at *
                    have Hyes := Lib.hid hyes; have Hno := Lib.hid hno; have Hhp := Lib.hid hhp; have Hhq := Lib.hid hhq
                    clear hyes hno hsh hp hq hgr hrow hrow' hhp hhq
                    by_cases hbp : bp = true
                    · subst hbp
                      by_cases hbq : bq = true
                      · subst hbq
                        obtain ⟨u, d, hlab, hup⟩ := hk.out
                        have hlk := hup.link (p := (i, j)) hlti (by show j < L.length; omega)
                        rw [← Cls.mergeAll_snoc, ← Hyes.out rfl] at hlk
                        have hfx := fun W h => spec_l3Find (some ⟨g, 0, none⟩) cap L.length u _ d i (i : Int) rfl W h hup hlti (by omega)
                        have hfy := fun W h => spec_l3Find (some ⟨g, 0, none⟩) cap L.length u _ d j (j : Int) rfl W h hup (by omega) (by omega)
                        have hca := hup.ok.lt i hlti
                        have hput := fun b => hlab.put (b := b) hca
                        have hdst := hlab.cell hca
                        have hfz := hlab.frozen (Cls.mergeAll (Cls.tri (Glue.share L) 9 i j x) i)
                        generalize Cls.mergeAll (Cls.tri (Glue.share L) 9 i j x) i = ra at *
                        generalize Cls.mergeAll (Cls.tri (Glue.share L) 9 i j x) j = rb at *
                        have Hfx := Lib.hid hfx; have Hfy := Lib.hid hfy; have Hlk := Lib.hid hlk; have Hrow := Lib.hid hlab.row; have Hput := Lib.hid (hput rb)
                        have hc0 : (0 : Int) ≤ (ra : Int) := by omega
                        have hc1 : (ra : Int) < (L.length : Int) := by omega
                        clear hfx hfy hlk hup hlab hput
                        go_wp2_with fail
                        refine Hhp.out.mono ?_
                        rintro e w2 ⟨rfl, rfl⟩
                        go_wp2_with fail
                        refine Hhq.out.mono ?_
                        rintro e w2 ⟨rfl, rfl⟩
                        go_wp2_with fail
                        refine (Hfx.out _ Hrow.out).mono ?_
                        rintro e w2 ⟨rfl, rfl⟩
                        go_wp2_with fail
                        refine (Hfy.out _ Hrow.out).mono ?_
                        rintro e w2 ⟨rfl, rfl⟩
                        go_wp2
                        go_roundw
                        case rel => exact ⟨x + 1, by omega, by omega, by go_num, Lib.hid (hb.out.setCell HgN.out _), Lib.hid ⟨_, _, Hput.out, Hlk.out⟩⟩
                        case measure => simp [intOf]; omega
                      · obtain rfl : bq = false := by simpa using hbq
                        have hst := Hno.out rfl
                        have Hst := Lib.hid hst; clear hst
                        go_wp2_with fail
                        refine Hhp.out.mono ?_
                        rintro e w2 ⟨rfl, rfl⟩
                        go_wp2_with fail
                        refine Hhq.out.mono ?_
                        rintro e w2 ⟨rfl, rfl⟩
                        go_wp2
                        go_roundw
                        case rel => exact ⟨x + 1, by omega, by omega, by go_num, hb, by rw [Hst.out]; exact hk⟩
                        case measure => simp [intOf]; omega
                    · obtain rfl : bp = false := by simpa using hbp
                      have hst := Hno.out rfl
                      have Hst := Lib.hid hst; clear hst
                      go_wp2_with fail
                      refine Hhp.out.mono ?_
                      rintro e w2 ⟨rfl, rfl⟩
                      go_wp2
                      go_roundw
                      case rel => exact ⟨x + 1, by omega, by omega, by go_num, hb, by rw [Hst.out]; exact hk⟩
                      case measure => simp [intOf]; omega
                  · obtain rfl : x = 9 := by omega
                    rw [Cls.tri_line] at hk
                    go_wp2
                    go_roundw
                    case rel => exact ⟨j + 1, by omega, by go_num, hb, hk⟩
                    case measure => simp [intOf]; omega
              · obtain rfl : j = i := by omega
                rw [Cls.tri_next] at hk
                go_wp2
                go_roundw
                case rel => exact ⟨j + 1, by omega, by go_num, hb, hk⟩
                case measure => simp [intOf]; omega
          · obtain rfl : i = L.length := by omega
            obtain ⟨u, d, hlab, hup⟩ := hk.out
            have Hup := Lib.hid (show Cls.Up u (Glue.ring L) d L.length from hup); have Hlab := Lib.hid hlab; have Hb := hb
            clear hup hlab hk hb
            generalize Glue.ring L = rg at *
            go_wp2
            go_loopw [8, 9] (fun sv kv w2 => ∃ k : Nat, k ≤ L.length ∧ kv = .int .i64 k ∧ sv = .int .i64 ((Cls.tally rg (List.range k) : Nat) : Int) ∧ w2 = wr) (fun _ kv _ => L.length - (intOf kv).toNat)
            case atStart => exact ⟨0, by omega, rfl, rfl, rfl⟩
            case round =>
              obtain ⟨k, hk, rfl, rfl, rfl⟩ := hrel
              by_cases hltk : k < L.length
              · have hcell := Hlab.out.cell hltk
                have hroot := Hup.out.root k hltk
                have hst : Cls.tally rg (List.range (k + 1)) = Cls.tally rg (List.range k) + (if rg k = k then 1 else 0) := by rw [List.range_succ, Cls.tally_snoc]
                have htl := Cls.tally_le rg (List.range k)
                rw [List.length_range] at htl
                generalize u k = uk at *
                obtain ⟨b1, hb1⟩ : ∃ b1, ((uk : Int) == (k : Int)) = b1 := ⟨_, rfl⟩
                have ht1 : (((if rg k = k then 1 else 0) : Nat) : Int) = if b1 then 1 else 0 := by
                  subst hb1
                  by_cases h : uk = k
                  · rw [if_pos (hroot.1 h), if_pos (by simp; omega)]; rfl
                  · rw [if_neg (fun hh => h (hroot.2 hh)), if_neg (by simp; omega)]; rfl
                have hn1 : (if rg k = k then 1 else 0 : Nat) ≤ 1 := by split <;> omega
                generalize (if rg k = k then 1 else 0 : Nat) = n1 at *
                generalize Cls.tally rg (List.range k) = S at *
                generalize hS' : Cls.tally rg (List.range (k + 1)) = S' at *
                have hbit := fun W => spec_l1Bit b1 W
                rw [← ht1] at hbit
                have Hbit := Lib.hid hbit; have HS' := Lib.hid hS'; have Hst := Lib.hid hst
                clear ht1 hbit hroot hst hS'
                go_wp2_with fail
                refine (Hbit.out _).mono ?_
                rintro e w2 ⟨rfl, rfl⟩
                go_wp2
                go_roundw
                case rel => exact ⟨k + 1, by omega, by go_num, by rw [HS'.out, Hst.out]; go_num, trivial⟩
                case measure => simp [intOf]; omega
              · obtain rfl : k = L.length := by omega
                rw [Hv.out]
                go_wp2
                go_ret
                exact ⟨rfl, Hb.out⟩
  · rw [if_neg hg] at hv
    rw [decide_eq_false hg] at hG
    have HG := Lib.hid hG; have Hv := Lib.hid hv
    clear hG hg ha hv
    go_enter Tryd.func42, Tryd.ntmps42
    go_wp2_with fail
    refine HG.out.mono ?_
    rintro e w1 ⟨rfl, hb1⟩
    go_wp2
    go_ret
    exact ⟨by rw [← Hv.out]; rfl, hb1⟩
end Go.Proofs.YtodgongemoabiaaDoor
