/-
  Circles of the boundary: what the document says, and the walks of the program's and the model's CountBorders.
-/
import Derived.Test.YtodgongemoabiaaDoorBase
import Derived.Test.YtodgongemoabiaaDoorSlice
import Derived.Test.YtodgongemoabiaaDoorInts
import Derived.Test.YtodgongemoabiaaDoorWord
import Derived.Test.YtodgongemoabiaaDoorGrid
import Derived.Test.YtodgongemoabiaaDoorGlue
import Derived.Test.YtodgongemoabiaaDoorIsWord
import Derived.Test.YtodgongemoabiaaDoorUses
import Derived.Test.YtodgongemoabiaaDoorIsGluing
import Derived.Test.YtodgongemoabiaaDoorOwn
import Derived.Test.YtodgongemoabiaaDoorLetters
import Derived.Test.YtodgongemoabiaaDoorClass
import Derived.Test.YtodgongemoabiaaDoorTri
import Derived.Test.YtodgongemoabiaaDoorLab
import Derived.Test.YtodgongemoabiaaDoorEnds
import Derived.Test.YtodgongemoabiaaDoorVert
import Derived.Deep.QuietTactic
import Derived.BigQuiet
namespace Go.Proofs.YtodgongemoabiaaDoor
open Go.RowKit

namespace Glue
def free (L : List (List Int)) (i : Nat) : Nat := (lettersN L 1 1).getD i 0
/-- Two free letters have a class of corners in common: by four ways of taking ends. -/
def touch (L : List (List Int)) (i j e : Nat) : Bool := decide (cor L (2 * free L i + e % 2) = cor L (2 * free L j + e / 2))
/-- The circles, by free letters. -/
def circ (L : List (List Int)) : Nat → Nat := Cls.mergeAll (Cls.tri (touch L) 4 (lettersN L 1 1).length 0 0)
def borders (L : List (List Int)) : Nat := Cls.tally (circ L) (List.range (lettersN L 1 1).length)
def numBorders (L : List (List Int)) : Int := if IsG L then (borders L : Int) else -1
/-- The program's way: the ends of free letters become one. -/
def spans (ks : List Nat) : List (Nat × Nat) := ks.map fun k => (2 * k, 2 * k + 1)
def sewn (L : List (List Int)) : Nat → Nat := Cls.mergeAll (corners L ++ spans (lettersN L 1 1))
def begins (ks : List Nat) : List Nat := ks.map fun k => 2 * k
theorem spans_take {ks : List Nat} {i k : Nat} (h : ks[i]? = some k) : spans (ks.take (i + 1)) = spans (ks.take i) ++ [(2 * k, 2 * k + 1)] := by
  obtain ⟨h1, rfl⟩ := List.getElem?_eq_some_iff.1 h
  unfold spans
  rw [List.take_succ_eq_append_getElem h1, List.map_append]; rfl
theorem begins_take {ks : List Nat} {i k : Nat} (h : ks[i]? = some k) : begins (ks.take (i + 1)) = begins (ks.take i) ++ [2 * k] := by
  obtain ⟨h1, rfl⟩ := List.getElem?_eq_some_iff.1 h
  unfold begins
  rw [List.take_succ_eq_append_getElem h1, List.map_append]; rfl
theorem begins_len (ks : List Nat) : (begins ks).length = ks.length := by simp [begins]
theorem free_at {L : List (List Int)} {i k : Nat} (h : (lettersN L 1 1)[i]? = some k) : free L i = k := by unfold free; rw [List.getD_eq_getElem?_getD, h]; rfl
theorem circ_ok (L : List (List Int)) : Cls.Ok (circ L) (lettersN L 1 1).length := Cls.Ok.all Cls.tri_lt
theorem sewn_span {L : List (List Int)} {i b : Nat} (hi : i < (lettersN L 1 1).length) (hb : b < 2) : sewn L (2 * free L i + b) = sewn L (2 * free L i) := by
  have hm : (2 * free L i, 2 * free L i + 1) ∈ corners L ++ spans (lettersN L 1 1) := by
    refine List.mem_append.2 (Or.inr ?_)
    unfold spans
    refine List.mem_map.2 ⟨(lettersN L 1 1)[i], List.getElem_mem hi, ?_⟩
    rw [free_at (List.getElem?_eq_getElem hi)]
  rcases Nat.lt_or_ge b 1 with h | h
  · obtain rfl : b = 0 := by omega
    rfl
  · obtain rfl : b = 1 := by omega
    exact (Cls.eq_of_mem hm).symm
theorem circ_touch {L : List (List Int)} {i j b b' : Nat} (hi : i < (lettersN L 1 1).length) (hj : j < (lettersN L 1 1).length) (hb : b < 2) (hb' : b' < 2)
    (h : cor L (2 * free L i + b) = cor L (2 * free L j + b')) : circ L i = circ L j := by
  have key : ∀ i j b b', i < (lettersN L 1 1).length → j < i → b < 2 → b' < 2 → cor L (2 * free L i + b) = cor L (2 * free L j + b') → circ L i = circ L j := fun i j b b' hi hji hb hb' h => by
    refine Cls.eq_of_mem (Cls.tri_mem.2 ⟨hi, hji, b + 2 * b', by omega, ?_⟩)
    unfold touch
    rw [show (b + 2 * b') % 2 = b from by omega, show (b + 2 * b') / 2 = b' from by omega]
    exact decide_eq_true h
  rcases Nat.lt_trichotomy i j with hlt | rfl | hlt
  · exact (key j i b' b hj hlt hb' hb h.symm).symm
  · rfl
  · exact key i j b b' hi hlt hb hb' h
theorem borders_ker {L : List (List Int)} {i j : Nat} (hi : i < (lettersN L 1 1).length) (hj : j < (lettersN L 1 1).length) : circ L i = circ L j ↔ sewn L (2 * free L i) = sewn L (2 * free L j) := by
  constructor
  · intro e
    refine Cls.ker_le (F := fun i => sewn L (2 * free L i)) (fun p hp => ?_) e
    obtain ⟨h1, h2, q, hq, hs⟩ := Cls.tri_mem.1 hp
    unfold touch at hs
    have hs := of_decide_eq_true hs
    have hs' := Cls.eq_append (m := spans (lettersN L 1 1)) hs
    show sewn L (2 * free L p.1) = sewn L (2 * free L p.2)
    rw [← sewn_span (b := q % 2) h1 (by omega), ← sewn_span (b := q / 2) (by omega : p.2 < _) (by omega)]
    exact hs'
  · intro e
    classical
    let G : Nat → Nat := fun v => if hx : ∃ i, i < (lettersN L 1 1).length ∧ ∃ b, b < 2 ∧ cor L (2 * free L i + b) = v then circ L (Classical.choose hx) else 0
    have hG : ∀ i b, i < (lettersN L 1 1).length → b < 2 → G (cor L (2 * free L i + b)) = circ L i := fun i b hi hb => by
      have hx : ∃ i', i' < (lettersN L 1 1).length ∧ ∃ b', b' < 2 ∧ cor L (2 * free L i' + b') = cor L (2 * free L i + b) := ⟨i, hi, b, hb, rfl⟩
      show (if hx : ∃ i', i' < (lettersN L 1 1).length ∧ ∃ b', b' < 2 ∧ cor L (2 * free L i' + b') = cor L (2 * free L i + b) then circ L (Classical.choose hx) else 0) = _
      rw [dif_pos hx]
      obtain ⟨h1, b', hb', h2⟩ := Classical.choose_spec hx
      exact circ_touch h1 hi hb' hb h2
    have := Cls.ker_le (F := fun e => G (cor L e)) (l := corners L ++ spans (lettersN L 1 1)) (fun p hp => by
      rcases List.mem_append.1 hp with hp | hp
      · show G (cor L p.1) = G (cor L p.2)
        rw [show cor L p.1 = cor L p.2 from Cls.eq_of_mem hp]
      · unfold spans at hp
        obtain ⟨k, hk, rfl⟩ := List.mem_map.1 hp
        obtain ⟨i, hi, rfl⟩ := List.mem_iff_getElem.1 hk
        have e := free_at (L := L) (List.getElem?_eq_getElem hi)
        show G (cor L (2 * (lettersN L 1 1)[i])) = G (cor L (2 * (lettersN L 1 1)[i] + 1))
        rw [← e]
        exact (hG i 0 hi (by omega)).trans (hG i 1 hi (by omega)).symm) e
    exact ((hG i 0 hi (by omega)).symm.trans this).trans (hG j 0 hj (by omega))
theorem borders_found (L : List (List Int)) : (Cls.found (sewn L) (begins (lettersN L 1 1))).length = borders L := by
  unfold borders
  rw [Cls.tally_range (circ_ok L)]
  have hb : begins (lettersN L 1 1) = (List.range (lettersN L 1 1).length).map fun i => 2 * free L i := by
    apply List.ext_getElem?
    intro i
    unfold begins
    by_cases hi : i < (lettersN L 1 1).length
    · simp [hi, free, List.getD_eq_getElem?_getD]
    · rw [List.getElem?_eq_none (by simp; omega), List.getElem?_eq_none (by simp; omega)]
  rw [hb, Cls.found_map]
  exact Cls.found_ker fun i hi j hj => (borders_ker (List.mem_range.1 hi) (List.mem_range.1 hj)).symm
theorem touch_at {L : List (List Int)} {i j ki kj : Nat} (hi : (lettersN L 1 1)[i]? = some ki) (hj : (lettersN L 1 1)[j]? = some kj) (e : Nat) : touch L i j e = decide (cor L (2 * ki + e % 2) = cor L (2 * kj + e / 2)) := by
  unfold touch; rw [free_at hi, free_at hj]
end Glue
theorem RowIn.grown {w w' : World} {lo hi : Nat} {t : TypeId} {a : Option Addr} {cs : List Value} {row : Option Nat} (h : RowIn w lo hi t a cs) (hg : w.grownBy w' row) (hr : ∀ k, row = some k → k < lo ∨ hi ≤ k) : RowIn w' lo hi t a cs := by
  rcases h with h | ⟨g, o, all, rfl, h3, h4, hk, hc⟩
  · exact Or.inl h
  · exact Or.inr ⟨g, o, all, rfl, h3, h4, hk.grown hg (fun e => by have := hr g e.symm; omega), hc⟩
theorem RowIn.alloc {w : World} {lo hi : Nat} {t : TypeId} {a : Option Addr} {cs : List Value} (h : RowIn w lo hi t a cs) (o : Obj) : RowIn (w.alloc o) lo hi t a cs :=
  h.below ((Below.refl w.heap.size w).alloc (Nat.le_refl _) o)
theorem Lab.grown {w w' : World} {g n : Nat} {u : Nat → Nat} {row : Option Nat} (h : Lab w g u n) (hg : w.grownBy w' row) (hr : ∀ k, row = some k → k ≠ g) : Lab w' g u n := by
  obtain ⟨all, hk, hc⟩ := h
  exact ⟨all, hk.grown hg (fun e => hr g e.symm rfl), hc⟩
theorem Lab.alloc {w : World} {g n : Nat} {u : Nat → Nat} (h : Lab w g u n) (o : Obj) : Lab (w.alloc o) g u n := by
  obtain ⟨all, hk, hc⟩ := h
  exact ⟨all, hk.alloc o, hc⟩
theorem own_grown {base n size : Nat} {w w' : World} {e : TypeId} {v : Value} {xs : List Value} (h : w.ownsRow base e size v n xs) {row : Option Nat} (hg : w.grownBy w' row) (hr : ∀ k, row = some k → k < base) : w'.ownsRow base e size v n xs := by
  have hlt := h.lt
  obtain ⟨hx, h0 | ⟨g, cap, cur, rfl, hgb, hh, h2⟩⟩ := h
  · exact ⟨hx, Or.inl h0⟩
  · exact ⟨hx, Or.inr ⟨g, cap, cur, rfl, hgb, (hg.block g (hlt g rfl).2 (fun e => by have := hr g e.symm; omega)).trans hh, h2⟩⟩

set_option maxRecDepth 10000 in
set_option maxHeartbeats 2000000 in
theorem impl_CountBorders (a : Option Addr) (c : Nat) (L : List (List Int)) (w : World) (ha : GridAt w a L) (hl : tot L ≤ 1048576) :
    Calls Tryd.prog 39 #[.slice a L.length c] w fun e w' => e = .returned (.int .i64 (Glue.numBorders L)) ∧ Below w.heap.size w w' := by
  have hG := impl_IsGluing a c L w ha hl
  generalize hv : Glue.numBorders L = V
  unfold Glue.numBorders at hv
  have Ha := Lib.hid ha
  by_cases hg : Glue.IsG L
  · rw [if_pos hg, ← Glue.borders_found L] at hv
    unfold Glue.sewn at hv
    rw [decide_eq_true hg] at hG
    have hE := fun W (h : GridAt W a L) => impl_FreeLetters a c L W h hl
    rw [Glue.freeLetters_N hg] at hE
    have hC := fun W (h : GridAt W a L) => impl_cornerClasses a c L W h hg.w (Nat.le_trans hg.2.1 (by decide))
    unfold Glue.cor at hC
    have hlt := fun k => Glue.lettersN_lt (L := L) (lo := 1) (hi := 1) (k := k)
    have hpos := fun k => Glue.lettersN_pos hg (lo := 1) (hi := 1) (k := k) (by omega)
    have hlen := Glue.lettersN_len L 1 1
    obtain ⟨i0, hi0, hz0, hz1, hz2⟩ := info_int_parts
    have Hi0 := Lib.hid hi0; have Hz0 := Lib.hid hz0; have Hz1 := Lib.hid hz1; have Hz2 := Lib.hid hz2
    have HG := Lib.hid hG; have HE := Lib.hid hE; have HC := Lib.hid hC; have Hlt := Lib.hid hlt; have Hpos := Lib.hid hpos; have Hv := Lib.hid hv
    clear hG hE hC hg ha hlt hpos hi0 hz0 hz1 hz2 hv
    generalize Glue.lettersN L 1 1 = K at *
    generalize Glue.corners L = P at *
    generalize hN : w.heap.size = N at *
    have HN := Lib.hid hN
    go_enter Tryd.func39, Tryd.ntmps39
    go_wp2_with fail
    refine HG.out.mono ?_
    rintro e w1 ⟨rfl, hb1⟩
    have hN1 : N ≤ w1.heap.size := by have := hb1.size; rw [HN.out] at this; exact this
    go_wp2_with fail
    refine (HC.out w1 (Ha.out.below (by rw [HN.out]; exact hb1))).mono ?_
    rintro e w2 ⟨g, rfl, hgg, hlab, hb2⟩
    have hb02 := hb1.trans (hb2.mono hN1)
    have hg2 := hlab.lt
    go_wp2_with fail
    refine (HE.out w2 (Ha.out.below (by rw [HN.out]; exact hb02))).mono ?_
    rintro e w3 ⟨ra, rc, rfl, h1, h2, h3, h4⟩
    rw [intsOf_len]
    have hlab3 := hlab.below h4 hg2
    have hb03 := hb02.trans (h4.mono (Nat.le_trans hN1 hb2.size))
    have Hrow := Lib.hid (RowIn.of_fresh h3); have Hlab := Lib.hid hlab3; have Hb := Lib.hid hb03; have HgN := Lib.hid (Nat.le_trans hN1 hgg); have Hg2 := Lib.hid hg2; have H43 := Lib.hid h4.size
    clear hb1 hb2 hb02 hb03 h1 h2 h3 h4 hlab hlab3 hgg hg2 hN1
    have hrow' : Hid (RowIn w3 w2.heap.size w3.heap.size 3 ra (intCells (intsOf K))) := Lib.hid (Hrow.out.mono (Nat.le_refl _) (Nat.le_refl _))
    clear Hrow
    generalize hB : w3.heap.size = B at *
    have HB := Lib.hid hB
    go_wp2
    go_loopw [4, 6, 15] (fun ov _ iv wr => ∃ i : Nat, i ≤ K.length ∧ iv = .int .i64 i ∧ Hid (Below N w wr ∧ B ≤ wr.heap.size) ∧ Hid (Lab wr g (Cls.mergeAll (P ++ Glue.spans (K.take i))) 18) ∧ Hid (RowIn wr w2.heap.size B 3 ra (intCells (intsOf K))) ∧ wr.ownsRow B 3 1 ov (Glue.begins (K.take i)).length (intCells (intsOf (Glue.begins (K.take i))))) (fun _ _ iv _ => K.length - (intOf iv).toNat)
    case atStart => exact ⟨0, by omega, rfl, Lib.hid ⟨Hb.out, by rw [HB.out]; exact Nat.le_refl _⟩, Lib.hid (by rw [List.take_zero, show Glue.spans [] = [] from rfl, List.append_nil]; exact Hlab.out), hrow', World.ownsRow_nil _ _ _ _⟩
    case round =>
      obtain ⟨i, hi, rfl, hb, hlab, hrw, hown⟩ := hrel
      by_cases hlti : i < K.length
      · obtain ⟨k, hk⟩ := get_some hlti
        obtain ⟨b, o, rfl, hbw, hcell⟩ := intCells_get? hrw.out.row (intsOf_get hk)
        have hk9 := Hlt.out k (get_mem hk)
        have hkp := Hpos.out k (get_mem hk)
        have hbeg := fun W => impl_beginOf (k : Int) W (by omega) (by omega)
        have hend := fun W => impl_endOf (k : Int) W (by omega) (by omega)
        rw [Glue.begN_nat] at hbeg
        rw [Glue.endN_nat hkp] at hend
        have hmr := fun za zb h1 h2 => impl_mergeClasses g 18 18 (Cls.mergeAll (P ++ Glue.spans (K.take i))) (2 * k) (2 * k + 1) za zb h1 h2 wr hlab.out (by omega) (by omega) (by omega)
        rw [← Cls.mergeAll_snoc, List.append_assoc, ← Glue.spans_take hk] at hmr
        have hst := Glue.begins_take hk
        have hln := Glue.begins_len (K.take i)
        rw [List.length_take] at hln
        generalize hX : Glue.begins (K.take i) = X at *
        generalize hY : Glue.begins (K.take (i + 1)) = Y at *
        have hxl : X.length ≤ 9 := by omega
        have HY := Lib.hid hY; have Hst := Lib.hid hst; have Hbeg := Lib.hid hbeg; have Hend := Lib.hid hend; have Hmr := Lib.hid hmr
        have hm1 : X.length + 1 ≤ maxLen := by unfold maxLen; omega
        have hm2 : (X.length + 1) * 8 ≤ 140737488355328 := by omega
        obtain ⟨av, cv, rfl⟩ := own_len hown
        clear hX hY hst hbeg hend hk hln hmr
        generalize 2 * k + 1 = m2 at *
        generalize 2 * k = m1 at *
        go_wp2_with fail
        refine (Hbeg.out _).mono ?_
        rintro e w4 ⟨rfl, rfl⟩
        go_wp2_with fail
        refine (Hend.out _).mono ?_
        rintro e w4 ⟨rfl, rfl⟩
        go_wp2_with fail
        refine (Hmr.out _ _ rfl rfl).mono ?_
        rintro e w5 ⟨rfl, hlab5, hg5⟩
        have hgB : g < B := by have := Hg2.out; have := H43.out; omega
        have hown5 := own_grown hown hg5 (fun k hk => by cases hk; exact hgB)
        have hrw5 := hrw.out.grown hg5 (fun k hk => by cases hk; exact Or.inl Hg2.out)
        have hNle : B ≤ w5.heap.size := Nat.le_trans hb.out.2 hg5.size
        have hbw5 : Below N w w5 := hb.out.1.grown hg5 (by have := hb.out.1.size; rw [HN.out] at this; exact this) (fun k hk => by cases hk; exact HgN.out)
        have Hlab5 := Lib.hid hlab5; have Hrw5 := Lib.hid hrw5; have Hbw5 := Lib.hid hbw5; have HgB := Lib.hid hgB
        clear hlab5 hg5 hrw5 hbw5 hown hgB hcell hbw
        go_wp2_with fail
        refine (Hbeg.out _).mono ?_
        rintro e w4 ⟨rfl, rfl⟩
        go_wp2_with (at_builtin; refine append_one rfl (.tmp 25) (.tmp 28) 46 rfl B 3 i0 _ 8 Tryd.underlying46 Hi0.out Hz0.out Hz1.out Hz2.out (by rfl) _ _ _ rfl hown5 (by rfl) _ rfl hm1 hm2 hNle ?_; intro v1 w1 hown1 hg1 _)
        go_roundw
        case rel =>
          refine ⟨i + 1, by omega, by go_num, Lib.hid ⟨Below.grown (Hbw5.out.alloc (by have := Hbw5.out.size; rw [HN.out] at this; exact this) _) hg1 (by have := Hbw5.out.size; rw [HN.out] at this; simp; omega) (fun k hk => by have := (hown5.lt k hk).1; have := HgN.out; have := HgB.out; omega), by have := hg1.size; simp at this; omega⟩, Lib.hid ((Hlab5.out.alloc _).grown hg1 (fun k hk => by have := (hown5.lt k hk).1; have := HgB.out; omega)), Lib.hid ((Hrw5.out.alloc _).grown hg1 (fun k hk => Or.inr (hown5.lt k hk).1)), ?_⟩
          rw [HY.out, Hst.out, intsOf_snoc, ← intCells_snoc, List.length_append]; exact hown1
        case measure => simp [intOf]; omega
      · obtain rfl : i = K.length := by omega
        rw [List.take_of_length_le (Nat.le_refl _)] at hown hlab
        obtain ⟨av, cv, rfl, hrow⟩ := own_row hown (by rw [intCells_len, intsOf_len])
        have hbl := Glue.begins_len K
        have hmem : ∀ m ∈ Glue.begins K, m < 18 := fun m hm => by
          unfold Glue.begins at hm
          obtain ⟨k, hk, rfl⟩ := List.mem_map.1 hm
          have := Hlt.out _ hk
          omega
        generalize Glue.begins K = E at *
        have hel : E.length ≤ 9 := by omega
        generalize Cls.mergeAll (P ++ Glue.spans K) = cc at *
        have hcc := impl_countClasses (some ⟨g, 0, none⟩) av 18 cv 18 cc E wr hlab.out.row hrow hmem (by omega) (by omega)
        have Hcc := Lib.hid hcc; have Hown := Lib.hid hown
        clear hrow hown hbl hmem hcc hel
        go_wp2_with fail
        refine Hcc.out.mono ?_
        rintro e w5 ⟨rfl, hb5⟩
        rw [Hv.out]
        go_wp2
        go_ret
        exact ⟨rfl, hb.out.1.trans (hb5.mono (by have := hb.out.1.size; rw [HN.out] at this; exact this))⟩
  · rw [if_neg hg] at hv
    rw [decide_eq_false hg] at hG
    have HG := Lib.hid hG; have Hv := Lib.hid hv
    clear hG hg ha hv
    go_enter Tryd.func39, Tryd.ntmps39
    go_wp2_with fail
    refine HG.out.mono ?_
    rintro e w1 ⟨rfl, hb1⟩
    go_wp2
    go_ret
    exact ⟨by rw [← Hv.out]; rfl, hb1⟩

set_option maxRecDepth 10000 in
set_option maxHeartbeats 4000000 in
theorem spec_CountBorders (a : Option Addr) (c : Nat) (L : List (List Int)) (w : World) (ha : GridAt w a L) (hl : tot L ≤ 1048576) :
    Calls Tryd.prog 43 #[.slice a L.length c] w fun e w' => e = .returned (.int .i64 (Glue.numBorders L)) ∧ Below w.heap.size w w' := by
  have hG := spec_IsGluing a c L w ha hl
  generalize hv : Glue.numBorders L = V
  unfold Glue.numBorders at hv
  have Ha := Lib.hid ha
  by_cases hg : Glue.IsG L
  · rw [if_pos hg] at hv
    unfold Glue.borders at hv
    rw [decide_eq_true hg] at hG
    have hE := fun W (h : GridAt W a L) => spec_l3Ends a c L W h hg.w (Nat.le_trans hg.2.1 (by decide))
    have hC := fun W (h : GridAt W a L) => spec_l3Letters a c L 1 1 W h hg.w (Nat.le_trans hg.2.2.2.1 (by decide)) (Nat.le_trans hg.2.1 (by decide)) (by omega)
    rw [Glue.letters_ofN] at hC
    have hlt := fun k => Glue.lettersN_lt (L := L) (lo := 1) (hi := 1) (k := k)
    have hlen := Glue.lettersN_len L 1 1
    have htou := fun i j ki kj e => Glue.touch_at (L := L) (i := i) (j := j) (ki := ki) (kj := kj) (e := e)
    have hcirc : Cls.mergeAll (Cls.tri (Glue.touch L) 4 (Glue.lettersN L 1 1).length 0 0) = Glue.circ L := rfl
    obtain ⟨i0, hi0, hz0, hz1, hz2⟩ := info_int_parts
    have Hi0 := Lib.hid hi0; have Hz0 := Lib.hid hz0; have Hz1 := Lib.hid hz1; have Hz2 := Lib.hid hz2
    have HG := Lib.hid hG; have HE := Lib.hid hE; have HC := Lib.hid hC; have Hlt := Lib.hid hlt; have Hv := Lib.hid hv; have Htou := Lib.hid htou; have Hcirc := Lib.hid hcirc
    clear hG hE hC hg ha hlt hi0 hz0 hz1 hz2 hv htou hcirc
    generalize Glue.lettersN L 1 1 = K at *
    generalize Glue.touch L = S at *
    generalize Glue.circ L = rg at *
    generalize Glue.cor L = cc at *
    generalize hN : w.heap.size = N at *
    have HN := Lib.hid hN
    go_enter Tryd.func43, Tryd.ntmps43
    go_wp2_with fail
    refine HG.out.mono ?_
    rintro e w1 ⟨rfl, hb1⟩
    have hN1 : N ≤ w1.heap.size := by have := hb1.size; rw [HN.out] at this; exact this
    go_wp2_with fail
    refine (HC.out w1 (Ha.out.below (by rw [HN.out]; exact hb1))).mono ?_
    rintro e w2 ⟨ra, rc, rfl, h1, h2, h3, h4⟩
    rw [intsOf_len]
    have hb02 := hb1.trans (h4.mono hN1)
    go_wp2_with fail
    refine (HE.out w2 (Ha.out.below (by rw [HN.out]; exact hb02))).mono ?_
    rintro e w3 ⟨g, cap, rfl, hgg, ⟨u, d, hlab, hup⟩, hb3⟩
    have hN2 : N ≤ w2.heap.size := Nat.le_trans hN1 h4.size
    have hrow3 := h3.row.below hb3
    have hb03 := hb02.trans (hb3.mono hN2)
    have hN3 : N ≤ w3.heap.size := Nat.le_trans hN2 hb3.size
    have hlt3 := hlab.lt
    have Hrow := Lib.hid hrow3; have Hlab := Lib.hid hlab; have Hup := Lib.hid hup; have Hb := Lib.hid hb03; have HN3 := Lib.hid hN3; have Hlt3 := Lib.hid hlt3
    clear hb1 hb02 hb03 h1 h2 h3 h4 hlab hgg hup hb3 hrow3 hN1 hN2 hN3 hlt3
    have hmd := own_made (w := w3) rfl
    have hbm := (Below.refl w3.heap.size w3).alloc (Nat.le_refl _) (.cells #[] 3)
    have Hrow3 : Hid (∀ W, Below w3.heap.size w3 W → RowAt W ra (intCells (intsOf K))) := Lib.hid (fun W h => Hrow.out.below h)
    have Hlab3 : Hid (∀ W, Below w3.heap.size w3 W → Lab W g u 18) := Lib.hid (fun W h => Hlab.out.below h Hlt3.out)
    have Hb3 : Hid (∀ W, Below w3.heap.size w3 W → Below N w W) := Lib.hid (fun W h => Hb.out.trans (h.mono HN3.out))
    clear Hrow Hlab Hb Hlt3 HN3
    generalize hB : w3.heap.size = B at *
    have HB := Lib.hid hB
    have Hmd := Lib.hid hmd; have Hbm := Lib.hid hbm
    clear hmd hbm
    go_wp2
    go_loopw [5, 6] (fun ov iv wr => ∃ i : Nat, i ≤ K.length ∧ iv = .int .i64 i ∧ Hid (Below B w3 wr ∧ ov ≠ .slice none 0 0) ∧ wr.ownsRow B 3 1 ov i (intCells (intsOf (List.range i)))) (fun _ iv _ => K.length - (intOf iv).toNat)
    case atStart => exact ⟨0, by omega, rfl, Lib.hid ⟨Hbm.out, fun e => by cases e⟩, Hmd.out⟩
    case round =>
      obtain ⟨i, hi, rfl, hb, hown⟩ := hrel
      by_cases hlti : i < K.length
      · have hNle : B ≤ wr.heap.size := by have := hb.out.1.size; rw [HB.out] at this; exact this
        have hst : List.range (i + 1) = List.range i ++ [i] := List.range_succ
        have Hst := Lib.hid hst
        obtain ⟨av, cv, rfl⟩ := own_len hown
        have hm1 : i + 1 ≤ maxLen := by unfold maxLen; omega
        have hm2 : (i + 1) * 8 ≤ 140737488355328 := by omega
        generalize List.range i = X at *
        generalize hY : List.range (i + 1) = Y at *
        have HY := Lib.hid hY
        clear hY hst
        go_wp2_with (at_builtin; refine append_one rfl (.tmp 26) (.tmp 28) 46 rfl B 3 i0 _ 8 Tryd.underlying46 Hi0.out Hz0.out Hz1.out Hz2.out (by rfl) _ _ _ rfl hown (by rfl) _ rfl hm1 hm2 hNle ?_; intro v1 w1 hown1 hg1 hnn)
        go_roundw
        case rel =>
          refine ⟨i + 1, by omega, by go_num, Lib.hid ⟨Below.grown (hb.out.1.alloc hNle _) hg1 (by simp; omega) (fun k hk => (hown.lt k hk).1), hnn⟩, ?_⟩
          rw [HY.out, Hst.out, intsOf_snoc, ← intCells_snoc]; exact hown1
        case measure => simp [intOf]; omega
      · obtain rfl : i = K.length := by omega
        obtain ⟨gr, capr, rfl, hgB, hcap, hlabr⟩ := own_lab2 hown (by simp) hb.out.2
        have hlab0 : Lab wr gr id K.length := hlabr.congr (fun k hk => by simp [List.getD_eq_getElem?_getD, hk])
        have Hlabr := Lib.hid hlab0; have HgB := Lib.hid hgB; have Hb := Lib.hid hb.out.1
        clear hlabr hlab0 hown hgB hb
        go_wp2
        go_loopw [7, 8, 9] (fun iv _ _ wr => ∃ i : Nat, i ≤ K.length ∧ iv = .int .i64 i ∧ Hid (Below B w3 wr) ∧ Hid (∃ v d, Lab wr gr v K.length ∧ Cls.Up v (Cls.mergeAll (Cls.tri S 4 i 0 0)) d K.length)) (fun iv _ _ _ => K.length - (intOf iv).toNat)
        case atStart => exact ⟨0, by omega, rfl, Hb, Lib.hid ⟨id, _, Hlabr.out, by rw [Cls.tri_zero]; exact Cls.Up.start _⟩⟩
        case round =>
          clear Hb Hlabr
          obtain ⟨i, hi, rfl, hb, hk⟩ := hrel
          by_cases hlti : i < K.length
          · go_wp2
            go_loopw [8, 9] (fun jv _ wr => ∃ j : Nat, j ≤ i ∧ jv = .int .i64 j ∧ Hid (Below B w3 wr) ∧ Hid (∃ v d, Lab wr gr v K.length ∧ Cls.Up v (Cls.mergeAll (Cls.tri S 4 i j 0)) d K.length)) (fun jv _ _ => i - (intOf jv).toNat)
            case atStart => exact ⟨0, by omega, rfl, hb, hk⟩
            case round =>
              clear hb hk
              obtain ⟨j, hj, rfl, hb, hk⟩ := hrel
              by_cases hltj : j < i
              · go_wp2
                go_loopw [9] (fun xv wr => ∃ x : Nat, x ≤ 4 ∧ xv = .int .i64 x ∧ Hid (Below B w3 wr) ∧ Hid (∃ v d, Lab wr gr v K.length ∧ Cls.Up v (Cls.mergeAll (Cls.tri S 4 i j x)) d K.length)) (fun xv _ => 4 - (intOf xv).toNat)
                case atStart => exact ⟨0, by omega, rfl, hb, hk⟩
                case round =>
                  clear hb hk
                  obtain ⟨x, hx4, rfl, hb, hk⟩ := hrel
                  by_cases hltx : x < 4
                  · obtain ⟨ki, hki⟩ := get_some hlti
                    obtain ⟨kj, hkj⟩ := get_some (show j < K.length by omega)
                    have hrw := Hrow3.out wr hb.out
                    obtain ⟨b, o, rfl, hbw, hcell⟩ := intCells_get? hrw (intsOf_get hki)
                    obtain ⟨b', o', e2, hbw', hcell'⟩ := intCells_get? hrw (intsOf_get hkj)
                    cases e2
                    have hk9i := Hlt.out ki (get_mem hki)
                    have hk9j := Hlt.out kj (get_mem hkj)
                    have hti := Htou.out i j ki kj x hki hkj
                    have hf1 := fun z hz W h => spec_l3Find (some ⟨g, 0, none⟩) cap 18 u cc d (2 * ki + x % 2) z hz W h Hup.out (by omega) (by omega)
                    have hf2 := fun z hz W h => spec_l3Find (some ⟨g, 0, none⟩) cap 18 u cc d (2 * kj + x / 2) z hz W h Hup.out (by omega) (by omega)
                    have hyes := fun h => Cls.tri_yes (S := S) (m := 4) (i := i) (j := j) (e := x) h
                    have hno := fun h => Cls.tri_no (S := S) (m := 4) (i := i) (j := j) (e := x) h
                    have hxc : (x : Int) < 4 := by omega
                    have hlabw := Hlab3.out wr hb.out
                    have Hlw := Lib.hid hlabw
                    have h0i : (0 : Int) ≤ (i : Int) := by omega
                    have h1i : (i : Int) < (K.length : Int) := by omega
                    have h0j : (0 : Int) ≤ (j : Int) := by omega
                    have h1j : (j : Int) < (K.length : Int) := by omega
                    have hm0 : 0 ≤ (x : Int) % 2 := by omega
                    have hm1 : (x : Int) % 2 < 2 := by omega
                    have hd0 : 0 ≤ (x : Int) / 2 := by omega
                    have hd1 : (x : Int) / 2 < 2 := by omega
                    by_cases ht : cc (2 * ki + x % 2) = cc (2 * kj + x / 2)
                    · rw [decide_eq_true ht] at hti
                      have hst := hyes hti
                      rw [ht] at hf1
                      generalize cc (2 * kj + x / 2) = v2 at *
                      have Hf1 := Lib.hid hf1; have Hf2 := Lib.hid hf2; have Hst := Lib.hid hst
                      clear hf1 hf2 hst hyes hno hti hki hkj hrw hlabw ht hbw hbw'
                      go_wp2
                      go_quiet (first | exact Calls.quiet_of_same (Hf1.out _ (by omega) _ (Hlw.out.drewN _).row) | exact Calls.quiet_of_same (Hf2.out _ (by omega) _ (Hlw.out.drewN _).row))
                      obtain ⟨v, dd, hlabr, hupr⟩ := hk.out
                      have hlk := hupr.link (p := (i, j)) hlti (by show j < K.length; omega)
                      rw [← Cls.mergeAll_snoc, ← Hst.out] at hlk
                      have hfx := fun W h => spec_l3Find (some ⟨gr, 0, none⟩) capr K.length v _ dd i (i : Int) rfl W h hupr hlti (by omega)
                      have hfy := fun W h => spec_l3Find (some ⟨gr, 0, none⟩) capr K.length v _ dd j (j : Int) rfl W h hupr (by omega) (by omega)
                      have hca := hupr.ok.lt i hlti
                      have hlabq := hlabr.drewN nq
                      have Hbq := Lib.hid (below_drewN hb.out nq)
                      generalize wr.drewN nq = W0 at *
                      have hput := fun b => hlabq.put (b := b) hca
                      have hdst := hlabq.cell hca
                      have hfz := hlabq.frozen (Cls.mergeAll (Cls.tri S 4 i j x) i)
                      generalize Cls.mergeAll (Cls.tri S 4 i j x) i = ca at *
                      generalize Cls.mergeAll (Cls.tri S 4 i j x) j = cb at *
                      have Hfx := Lib.hid hfx; have Hfy := Lib.hid hfy; have Hlk := Lib.hid hlk; have Hrr := Lib.hid hlabq.row; have Hput := Lib.hid (hput cb)
                      have hc0 : (0 : Int) ≤ (ca : Int) := by omega
                      have hc1 : (ca : Int) < (K.length : Int) := by omega
                      clear hfx hfy hlk hupr hlabr hlabq hput hcell hcell' hm0 hm1 hd0 hd1
                      go_wp2_with fail
                      refine (Hfx.out _ Hrr.out).mono ?_
                      rintro e w2 ⟨rfl, rfl⟩
                      go_wp2_with fail
                      refine (Hfy.out _ Hrr.out).mono ?_
                      rintro e w2 ⟨rfl, rfl⟩
                      go_wp2
                      go_roundw
                      case rel => exact ⟨x + 1, by omega, by go_num, Lib.hid (Hbq.out.setCell HgB.out _), Lib.hid ⟨_, _, Hput.out, Hlk.out⟩⟩
                      case measure => simp [intOf]; omega
                    · rw [decide_eq_false ht] at hti
                      have hst := hno hti
                      generalize cc (2 * ki + x % 2) = v1 at *
                      generalize cc (2 * kj + x / 2) = v2 at *
                      have hne : ((v1 : Int) == (v2 : Int)) = false := beq_eq_false_iff_ne.2 (by omega)
                      have Hf1 := Lib.hid hf1; have Hf2 := Lib.hid hf2; have Hst := Lib.hid hst
                      clear hf1 hf2 hst hyes hno hti hki hkj hrw hlabw ht hbw hbw'
                      go_wp2
                      go_quiet (first | exact Calls.quiet_of_same (Hf1.out _ (by omega) _ (Hlw.out.drewN _).row) | exact Calls.quiet_of_same (Hf2.out _ (by omega) _ (Hlw.out.drewN _).row))
                      have Hbq := Lib.hid (below_drewN hb.out nq)
                      have Hkq : Hid (∃ v d, Lab (wr.drewN nq) gr v K.length ∧ Cls.Up v (Cls.mergeAll (Cls.tri S 4 i j (x + 1))) d K.length) := Lib.hid (by rw [Hst.out]; exact hk.out)
                      generalize wr.drewN nq = W0 at *
                      clear hcell hcell' hm0 hm1 hd0 hd1
                      go_wp2
                      go_roundw
                      case rel => exact ⟨x + 1, by omega, by go_num, Hbq, Hkq⟩
                      case measure => simp [intOf]; omega
                  · obtain rfl : x = 4 := by omega
                    rw [Cls.tri_line] at hk
                    go_wp2
                    go_roundw
                    case rel => exact ⟨j + 1, by omega, by go_num, hb, hk⟩
                    case measure => simp [intOf]; omega
              · obtain rfl : j = i := by omega
                rw [Cls.tri_next] at hk
                go_wp2
                go_roundw
                case rel => exact ⟨j + 1, by omega, by go_num, hb, hk⟩
                case measure => simp [intOf]; omega
          · obtain rfl : i = K.length := by omega
            rw [Hcirc.out] at hk
            obtain ⟨v, dd, hlab, hupr⟩ := hk.out
            have Hupr := Lib.hid hupr; have Hlab := Lib.hid hlab; have Hb := Lib.hid (Hb3.out wr hb.out)
            clear hupr hlab hk hb
            go_wp2
            go_loopw [10, 11] (fun sv kv w2 => ∃ k : Nat, k ≤ K.length ∧ kv = .int .i64 k ∧ sv = .int .i64 ((Cls.tally rg (List.range k) : Nat) : Int) ∧ w2 = wr) (fun _ kv _ => K.length - (intOf kv).toNat)
            case atStart => exact ⟨0, by omega, rfl, rfl, rfl⟩
            case round =>
              obtain ⟨k, hk, rfl, rfl, rfl⟩ := hrel
              by_cases hltk : k < K.length
              · have hcell := Hlab.out.cell hltk
                have hroot := Hupr.out.root k hltk
                have hst : Cls.tally rg (List.range (k + 1)) = Cls.tally rg (List.range k) + (if rg k = k then 1 else 0) := by rw [List.range_succ, Cls.tally_snoc]
                have htl := Cls.tally_le rg (List.range k)
                rw [List.length_range] at htl
                generalize v k = uk at *
                obtain ⟨b1, hb1⟩ : ∃ b1, ((uk : Int) == (k : Int)) = b1 := ⟨_, rfl⟩
                have ht1 : (((if rg k = k then 1 else 0) : Nat) : Int) = if b1 then 1 else 0 := by
                  subst hb1
                  by_cases h : uk = k
                  · rw [if_pos (hroot.1 h), if_pos (by simp; omega)]; rfl
                  · rw [if_neg (fun hh => h (hroot.2 hh)), if_neg (by simp; omega)]; rfl
                have hn1 : (if rg k = k then 1 else 0 : Nat) ≤ 1 := by split <;> omega
                generalize (if rg k = k then 1 else 0 : Nat) = n1 at *
                generalize Cls.tally rg (List.range k) = T at *
                generalize hS' : Cls.tally rg (List.range (k + 1)) = T' at *
                have hbit := fun W => spec_l1Bit b1 W
                rw [← ht1] at hbit
                have Hbit := Lib.hid hbit; have HS' := Lib.hid hS'; have Hst := Lib.hid hst
                clear ht1 hbit hroot hst hS'
                go_wp2_with fail
                refine (Hbit.out _).mono ?_
                rintro e w2 ⟨rfl, rfl⟩
                go_wp2
                go_roundw
                case rel => exact ⟨k + 1, by omega, by go_num, by rw [HS'.out, Hst.out]; go_num, trivial⟩
                case measure => simp [intOf]; omega
              · obtain rfl : k = K.length := by omega
                rw [Hv.out]
                go_wp2
                go_ret
                exact ⟨rfl, Hb.out⟩
  · rw [if_neg hg] at hv
    rw [decide_eq_false hg] at hG
    have HG := Lib.hid hG; have Hv := Lib.hid hv
    clear hG hg ha hv
    go_enter Tryd.func43, Tryd.ntmps43
    go_wp2_with fail
    refine HG.out.mono ?_
    rintro e w1 ⟨rfl, hb1⟩
    go_wp2
    go_ret
    exact ⟨by rw [← Hv.out]; rfl, hb1⟩
end Go.Proofs.YtodgongemoabiaaDoor
