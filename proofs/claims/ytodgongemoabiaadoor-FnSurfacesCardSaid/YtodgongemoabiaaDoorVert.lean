/-
  The walks of the program's and the model's CountVertices and EulerOf.
-/
import Derived.Test.YtodgongemoabiaaDoorBase
import Derived.Test.YtodgongemoabiaaDoorSlice
import Derived.Test.YtodgongemoabiaaDoorInts
import Derived.Test.YtodgongemoabiaaDoorWord
import Derived.Test.YtodgongemoabiaaDoorGrid
import Derived.Test.YtodgongemoabiaaDoorGlue
import Derived.Test.YtodgongemoabiaaDoorIsWord
import Derived.Test.YtodgongemoabiaaDoorUses
import Derived.Test.YtodgongemoabiaaDoorIsGluing
import Derived.Test.YtodgongemoabiaaDoorOwn
import Derived.Test.YtodgongemoabiaaDoorLetters
import Derived.Test.YtodgongemoabiaaDoorClass
import Derived.Test.YtodgongemoabiaaDoorLab
import Derived.Test.YtodgongemoabiaaDoorEnds
import Derived.Deep.QuietTactic
import Derived.BigQuiet
namespace Go.Proofs.YtodgongemoabiaaDoor
open Go.RowKit

namespace Glue
/-- The letters that occur at least, and at most, some times, as numbers. -/
def lettersN (L : List (List Int)) (lo hi : Int) : List Nat := (List.range 9).filter fun k => decide (lo ≤ (uses L).getD k 0 ∧ (uses L).getD k 0 ≤ hi)
theorem letters_ofN (L : List (List Int)) (lo hi : Int) : letters L lo hi = intsOf (lettersN L lo hi) := rfl
theorem lettersN_lt {L : List (List Int)} {lo hi : Int} {k : Nat} (h : k ∈ lettersN L lo hi) : k < 9 := List.mem_range.1 (List.mem_filter.1 h).1
theorem lettersN_len (L : List (List Int)) (lo hi : Int) : (lettersN L lo hi).length ≤ 9 := by
  have := List.length_filter_le (fun k => decide (lo ≤ (uses L).getD k 0 ∧ (uses L).getD k 0 ≤ hi)) (List.range 9)
  rwa [List.length_range] at this
theorem lettersN_nodup (L : List (List Int)) (lo hi : Int) : (lettersN L lo hi).Nodup := List.nodup_range.filter _
/-- Both ends of letters. -/
def ends (ks : List Nat) : List Nat := ks.flatMap fun k => [2 * k, 2 * k + 1]
theorem ends_snoc (ks : List Nat) (k : Nat) : ends (ks ++ [k]) = ends ks ++ [2 * k] ++ [2 * k + 1] := by simp [ends]
theorem ends_mem {ks : List Nat} {m : Nat} : m ∈ ends ks ↔ m / 2 ∈ ks := by
  unfold ends
  rw [List.mem_flatMap]
  constructor
  · rintro ⟨k, hk, h⟩
    simp only [List.mem_cons, List.not_mem_nil, or_false] at h
    obtain rfl : m / 2 = k := by omega
    exact hk
  · intro h
    exact ⟨m / 2, h, by simp only [List.mem_cons, List.not_mem_nil, or_false]; omega⟩
theorem ends_nodup {ks : List Nat} (h : ks.Nodup) : (ends ks).Nodup := by
  induction ks with
  | nil => simp [ends]
  | cons k t ih =>
    rw [List.nodup_cons] at h
    show (([2 * k, 2 * k + 1] ++ ends t) : List Nat).Nodup
    rw [List.nodup_append]
    refine ⟨by simp, ih h.2, fun x hx y hy => ?_⟩
    rintro rfl
    simp only [List.mem_cons, List.not_mem_nil, or_false] at hx
    have := ends_mem.1 hy
    have e : x / 2 = k := by omega
    rw [e] at this
    exact h.1 this
theorem ends_len (ks : List Nat) : (ends ks).length = 2 * ks.length := by
  induction ks with
  | nil => rfl
  | cons k t ih => show ([2 * k, 2 * k + 1] ++ ends t).length = _; rw [List.length_append, ih]; simp; omega
theorem ends_take {ks : List Nat} {i k : Nat} (h : ks[i]? = some k) : ends (ks.take (i + 1)) = ends (ks.take i) ++ [2 * k] ++ [2 * k + 1] := by
  obtain ⟨h1, rfl⟩ := List.getElem?_eq_some_iff.1 h
  rw [List.take_succ_eq_append_getElem h1, ends_snoc]

/-- A letter that occurs is among them. -/
theorem occurs {L : List (List Int)} (h : IsG L) {r : List Int} (hr : r ∈ L) {x : Int} (hx : x ∈ r) : x.natAbs ∈ lettersN L 1 2 := by
  have hl := (h.w r hr).1 x hx
  have h9 : x.natAbs < 9 := by obtain ⟨_, _, _⟩ := hl; omega
  unfold lettersN
  rw [List.mem_filter]
  refine ⟨List.mem_range.2 h9, ?_⟩
  have hc := count_get L.flatten x.natAbs h9
  have hm : x ∈ L.flatten.filter fun y => y.natAbs == x.natAbs := by
    rw [List.mem_filter]; exact ⟨List.mem_flatten.2 ⟨r, hr, hx⟩, by simp⟩
  have hp := List.length_pos_of_mem hm
  have h2 : (uses L).getD x.natAbs 0 ≤ 2 := by
    have hk : x.natAbs < (uses L).length := by rw [uses_len]; exact h9
    rw [← uses_at _ hk]; exact h.2.2.2.2 _ (List.getElem_mem hk)
  unfold uses at h2 ⊢
  simp only [decide_eq_true_eq]
  omega
theorem endN_half (x : Int) : endN x / 2 = x.natAbs := by unfold endN begN; split <;> omega
theorem begN_half (x : Int) : begN x / 2 = x.natAbs := by unfold begN; split <;> omega
theorem corners_in {L : List (List Int)} (h : IsG L) : ∀ p ∈ corners L, p.1 ∈ ends (lettersN L 1 2) ∧ p.2 ∈ ends (lettersN L 1 2) := by
  intro p hp
  obtain ⟨r, hr, j, hj, rfl⟩ := met_mem hp
  have h2 : (j + 1) % r.length < r.length := Nat.mod_lt _ (by omega)
  rw [corner_at (List.getElem?_eq_getElem hj) (List.getElem?_eq_getElem h2)]
  exact ⟨ends_mem.2 (by rw [endN_half]; exact occurs h hr (List.getElem_mem hj)), ends_mem.2 (by rw [begN_half]; exact occurs h hr (List.getElem_mem h2))⟩
/-- The number of classes of corners. -/
def vertices (L : List (List Int)) : Nat := Cls.tally (cor L) (ends (lettersN L 1 2))
theorem vertices_found {L : List (List Int)} (h : IsG L) : (Cls.found (cor L) (ends (lettersN L 1 2))).length = vertices L := by
  refine (Cls.tally_found (ends_nodup (lettersN_nodup L 1 2)) (Cls.closed (S := fun m => m ∈ ends (lettersN L 1 2)) (corners_in h)) fun m hm => ?_).symm
  exact (cor_ok h.w).idem m (by have := lettersN_lt (ends_mem.1 hm); omega)
def numVertices (L : List (List Int)) : Int := if IsG L then (vertices L : Int) else -1
theorem vertices_le (L : List (List Int)) : vertices L ≤ 18 := by
  have h1 := Cls.tally_le (cor L) (ends (lettersN L 1 2))
  have h2 := lettersN_len L 1 2
  rw [ends_len] at h1
  unfold vertices; omega
end Glue

set_option maxRecDepth 10000 in
set_option maxHeartbeats 2000000 in
theorem spec_CountVertices (a : Option Addr) (c : Nat) (L : List (List Int)) (w : World) (ha : GridAt w a L) (hl : tot L ≤ 1048576) :
    Calls Tryd.prog 53 #[.slice a L.length c] w fun e w' => e = .returned (.int .i64 (Glue.numVertices L)) ∧ Below w.heap.size w w' := by
  have hG := spec_IsGluing a c L w ha hl
  generalize hv : Glue.numVertices L = V
  unfold Glue.numVertices at hv
  have Ha := Lib.hid ha
  by_cases hg : Glue.IsG L
  · rw [if_pos hg] at hv
    rw [decide_eq_true hg] at hG
    have hE := fun W (h : GridAt W a L) => spec_l3Ends a c L W h hg.w (Nat.le_trans hg.2.1 (by decide))
    have hC := fun W (h : GridAt W a L) => spec_l3Letters a c L 1 2 W h hg.w (Nat.le_trans hg.2.2.2.1 (by decide)) (Nat.le_trans hg.2.1 (by decide)) (by omega)
    rw [Glue.letters_ofN] at hC
    unfold Glue.vertices at hv
    have hlt := fun k => Glue.lettersN_lt (L := L) (lo := 1) (hi := 2) (k := k)
    have hlen := Glue.lettersN_len L 1 2
    have HG := Lib.hid hG; have HE := Lib.hid hE; have HC := Lib.hid hC; have Hlt := Lib.hid hlt
    clear hG hE hC hg ha hlt
    generalize Glue.lettersN L 1 2 = K at *
    generalize Glue.cor L = cc at *
    have Hv := Lib.hid hv
    clear hv
    go_enter Tryd.func53, Tryd.ntmps53
    go_wp2_with fail
    refine HG.out.mono ?_
    rintro e w1 ⟨rfl, hb1⟩
    go_wp2_with fail
    refine (HE.out w1 (Ha.out.below hb1)).mono ?_
    rintro e w2 ⟨g, cap, rfl, hg, ⟨u, d, hlab, hup⟩, hb2⟩
    have hb02 := hb1.trans (hb2.mono hb1.size)
    go_wp2_with fail
    refine (HC.out w2 (Ha.out.below hb02)).mono ?_
    rintro e w3 ⟨ra, rc, rfl, h1, h2, h3, h4⟩
    rw [intsOf_len]
    have hb03 := hb02.trans (h4.mono hb02.size)
    have Hlab := Lib.hid (hlab.below h4 hlab.lt); have Hrow := Lib.hid h3.row; have Hb := Lib.hid hb03; have Hup := Lib.hid hup
    clear hb1 hb2 hb02 hb03 h1 h2 h3 h4 hlab hg hup
    go_wp2
    go_loopw [5, 6] (fun sv iv wr => ∃ i : Nat, i ≤ K.length ∧ iv = .int .i64 i ∧ sv = .int .i64 ((Cls.tally cc (Glue.ends (K.take i)) : Nat) : Int) ∧ Hid (Below w3.heap.size w3 wr)) (fun _ iv _ => K.length - (intOf iv).toNat)
    case atStart => exact ⟨0, by omega, rfl, rfl, Lib.hid (Below.refl _ _)⟩
    case round =>
      obtain ⟨i, hi, rfl, rfl, hb⟩ := hrel
      by_cases hlti : i < K.length
      · obtain ⟨k, hk⟩ := get_some hlti
        obtain ⟨b, o, rfl, hbw, hcell⟩ := intCells_get? (Hrow.out.below hb.out) (intsOf_get hk)
        have hk9 := Hlt.out k (get_mem hk)
        have hlabw := Hlab.out.below hb.out Hlab.out.lt
        have hc1 := hlabw.cell (k := 2 * k) (by omega)
        have hc2 := hlabw.cell (k := 2 * k + 1) (by omega)
        have hr1 := Hup.out.root (2 * k) (by omega)
        have hr2 := Hup.out.root (2 * k + 1) (by omega)
        have hst := Glue.ends_take hk
        have htl := Cls.tally_le cc (Glue.ends (K.take (i + 1)))
        rw [Glue.ends_len, List.length_take] at htl
        have htally : Cls.tally cc (Glue.ends (K.take (i + 1))) = Cls.tally cc (Glue.ends (K.take i)) + (if cc (2 * k) = 2 * k then 1 else 0) + (if cc (2 * k + 1) = 2 * k + 1 then 1 else 0) := by
          rw [hst, Cls.tally_snoc, Cls.tally_snoc]
        generalize u (2 * k) = u1 at *
        generalize u (2 * k + 1) = u2 at *
        obtain ⟨b1, hb1⟩ : ∃ b1, ((u1 : Int) == 2 * (k : Int)) = b1 := ⟨_, rfl⟩
        obtain ⟨b2, hb2⟩ : ∃ b2, ((u2 : Int) == 2 * (k : Int) + 1) = b2 := ⟨_, rfl⟩
        have ht1 : (((if cc (2 * k) = 2 * k then 1 else 0) : Nat) : Int) = if b1 then 1 else 0 := by
          subst hb1
          by_cases h : u1 = 2 * k
          · rw [if_pos (hr1.1 h), if_pos (by simp; omega)]; rfl
          · rw [if_neg (fun hh => h (hr1.2 hh)), if_neg (by simp; omega)]; rfl
        have ht2 : (((if cc (2 * k + 1) = 2 * k + 1 then 1 else 0) : Nat) : Int) = if b2 then 1 else 0 := by
          subst hb2
          by_cases h : u2 = 2 * k + 1
          · rw [if_pos (hr2.1 h), if_pos (by simp; omega)]; rfl
          · rw [if_neg (fun hh => h (hr2.2 hh)), if_neg (by simp; omega)]; rfl
        generalize (if cc (2 * k) = 2 * k then 1 else 0 : Nat) = n1 at *
        generalize (if cc (2 * k + 1) = 2 * k + 1 then 1 else 0 : Nat) = n2 at *
        generalize Cls.tally cc (Glue.ends (K.take i)) = S at *
        generalize hS' : Cls.tally cc (Glue.ends (K.take (i + 1))) = S' at *
        have hbit1 := fun W => spec_l1Bit b1 W
        have hbit2 := fun W => spec_l1Bit b2 W
        rw [← ht1] at hbit1
        rw [← ht2] at hbit2
        have Hbit1 := Lib.hid hbit1; have Hbit2 := Lib.hid hbit2; have HS' := Lib.hid hS'; have Htally := Lib.hid htally
        have h0i : (0 : Int) ≤ (i : Int) := by omega
        have h1i : (i : Int) < (K.length : Int) := by omega
        have hSb : S + n1 + n2 ≤ 100 := by omega
        have hk0 : (0 : Int) ≤ 2 * (k : Int) := by omega
        have hk1 : 2 * (k : Int) < 18 := by omega
        have hk2 : (0 : Int) ≤ 2 * (k : Int) + 1 := by omega
        have hk3 : 2 * (k : Int) + 1 < 18 := by omega
        clear ht1 ht2 hbit1 hbit2 hr1 hr2 hst htl hk hS' htally hlabw
        go_wp2
        go_quiet (first | exact Calls.quiet_of_same (Hbit1.out _) | exact Calls.quiet_of_same (Hbit2.out _))
        all_goals go_wp2
        all_goals
          go_roundw
          case rel => exact ⟨i + 1, by omega, by go_num, by rw [HS'.out, Htally.out]; go_num, Lib.hid (below_drewN hb.out _)⟩
          case measure => simp [intOf]; omega
      · obtain rfl : i = K.length := by omega
        rw [List.take_of_length_le (Nat.le_refl _), Hv.out]
        go_wp2
        go_ret
        exact ⟨rfl, Hb.out.trans (hb.out.mono Hb.out.size)⟩
  · rw [if_neg hg] at hv
    rw [decide_eq_false hg] at hG
    have HG := Lib.hid hG; have Hv := Lib.hid hv
    clear hG hg ha hv
    go_enter Tryd.func53, Tryd.ntmps53
    go_wp2_with fail
    refine HG.out.mono ?_
    rintro e w1 ⟨rfl, hb1⟩
    go_wp2
    go_ret
    exact ⟨by rw [← Hv.out]; rfl, hb1⟩

namespace Glue
theorem edgeLetters_N {L : List (List Int)} (h : IsG L) : edgeLetters L = intsOf (lettersN L 1 2) := by rw [edgeLetters, if_pos h, letters_ofN]
theorem freeLetters_N {L : List (List Int)} (h : IsG L) : freeLetters L = intsOf (lettersN L 1 1) := by rw [freeLetters, if_pos h, letters_ofN]
theorem lettersN_pos {L : List (List Int)} (h : IsG L) {lo hi : Int} (hl : 1 ≤ lo) {k : Nat} (hk : k ∈ lettersN L lo hi) : 0 < k := by
  rcases Nat.eq_zero_or_pos k with rfl | h0
  · have := (List.mem_filter.1 hk).2
    have hz : (uses L).getD 0 0 = 0 := count_zero (letters_of h.w)
    rw [hz] at this
    simp only [decide_eq_true_eq] at this
    omega
  · exact h0
theorem begN_nat (k : Nat) : begN (k : Int) = 2 * k := by unfold begN; rw [if_neg (by omega)]; omega
theorem endN_nat {k : Nat} (h : 0 < k) : endN (k : Int) = 2 * k + 1 := by unfold endN begN; rw [if_pos (by omega)]; omega
def numEuler (L : List (List Int)) : Int := if IsG L then (vertices L : Int) - ((lettersN L 1 2).length : Int) + (L.length : Int) else -100
end Glue

set_option maxRecDepth 10000 in
set_option maxHeartbeats 2000000 in
theorem impl_CountVertices (a : Option Addr) (c : Nat) (L : List (List Int)) (w : World) (ha : GridAt w a L) (hl : tot L ≤ 1048576) :
    Calls Tryd.prog 70 #[.slice a L.length c] w fun e w' => e = .returned (.int .i64 (Glue.numVertices L)) ∧ Below w.heap.size w w' := by
  have hG := impl_IsGluing a c L w ha hl
  generalize hv : Glue.numVertices L = V
  unfold Glue.numVertices at hv
  have Ha := Lib.hid ha
  by_cases hg : Glue.IsG L
  · rw [if_pos hg, ← Glue.vertices_found hg] at hv
    rw [decide_eq_true hg] at hG
    have hE := fun W (h : GridAt W a L) => impl_EdgeLetters a c L W h hl
    rw [Glue.edgeLetters_N hg] at hE
    have hC := fun W (h : GridAt W a L) => impl_cornerClasses a c L W h hg.w (Nat.le_trans hg.2.1 (by decide))
    have hlt := fun k => Glue.lettersN_lt (L := L) (lo := 1) (hi := 2) (k := k)
    have hpos := fun k => Glue.lettersN_pos hg (lo := 1) (hi := 2) (k := k) (by omega)
    have hlen := Glue.lettersN_len L 1 2
    obtain ⟨i0, hi0, hz0, hz1, hz2⟩ := info_int_parts
    have Hi0 := Lib.hid hi0; have Hz0 := Lib.hid hz0; have Hz1 := Lib.hid hz1; have Hz2 := Lib.hid hz2
    have HG := Lib.hid hG; have HE := Lib.hid hE; have HC := Lib.hid hC; have Hlt := Lib.hid hlt; have Hpos := Lib.hid hpos
    clear hG hE hC hg ha hlt hpos hi0 hz0 hz1 hz2
    generalize Glue.lettersN L 1 2 = K at *
    generalize Glue.cor L = cc at *
    have Hv := Lib.hid hv
    clear hv
    generalize hN : w.heap.size = N at *
    have HN := Lib.hid hN
    go_enter Tryd.func70, Tryd.ntmps70
    go_wp2_with fail
    refine HG.out.mono ?_
    rintro e w1 ⟨rfl, hb1⟩
    go_wp2_with fail
    refine (HE.out w1 (Ha.out.below (by rw [HN.out]; exact hb1))).mono ?_
    rintro e w2 ⟨ra, rc, rfl, h1, h2, h3, h4⟩
    rw [intsOf_len]
    have hb02 : Below N w w2 := hb1.trans (h4.mono (by have := hb1.size; rw [HN.out] at this; exact this))
    have Hrow := Lib.hid h3.row; have Hb := Lib.hid hb02
    clear hb1 hb02 h1 h2 h3 h4
    go_wp2
    go_loopw [3, 5, 12] (fun ov _ iv wr => ∃ i : Nat, i ≤ K.length ∧ iv = .int .i64 i ∧ Hid (Below w2.heap.size w2 wr) ∧ wr.ownsRow w2.heap.size 3 1 ov (Glue.ends (K.take i)).length (intCells (intsOf (Glue.ends (K.take i))))) (fun _ _ iv _ => K.length - (intOf iv).toNat)
    case atStart => exact ⟨0, by omega, rfl, Lib.hid (Below.refl _ _), World.ownsRow_nil _ _ _ _⟩
    case round =>
      obtain ⟨i, hi, rfl, hb, hown⟩ := hrel
      by_cases hlti : i < K.length
      · obtain ⟨k, hk⟩ := get_some hlti
        obtain ⟨b, o, rfl, hbw, hcell⟩ := intCells_get? (Hrow.out.below hb.out) (intsOf_get hk)
        have hk9 := Hlt.out k (get_mem hk)
        have hkp := Hpos.out k (get_mem hk)
        have hbeg := fun W => impl_beginOf (k : Int) W (by omega) (by omega)
        have hend := fun W => impl_endOf (k : Int) W (by omega) (by omega)
        rw [Glue.begN_nat] at hbeg
        rw [Glue.endN_nat hkp] at hend
        have hst := Glue.ends_take hk
        have hln := Glue.ends_len (K.take i)
        rw [List.length_take] at hln
        generalize hX : Glue.ends (K.take i) = X at *
        generalize hY : Glue.ends (K.take (i + 1)) = Y at *
        have HY := Lib.hid hY; have Hst := Lib.hid hst; have Hbeg := Lib.hid hbeg; have Hend := Lib.hid hend
        have hNle : w2.heap.size ≤ wr.heap.size := hb.out.size
        have hm1 : X.length + 2 ≤ maxLen := by unfold maxLen; omega
        have hm2 : (X.length + 2) * 8 ≤ 140737488355328 := by omega
        obtain ⟨av, cv, rfl⟩ := own_len hown
        clear hX hY hst hbeg hend hk hln
        generalize 2 * k + 1 = m2 at *
        generalize 2 * k = m1 at *
        go_wp2_with fail
        refine (Hbeg.out _).mono ?_
        rintro e w3 ⟨rfl, rfl⟩
        go_wp2_with fail
        refine (Hend.out _).mono ?_
        rintro e w3 ⟨rfl, rfl⟩
        go_wp2_with (at_builtin; refine append_two rfl (.tmp 16) (.tmp 21) 46 rfl w2.heap.size 3 i0 _ 8 Tryd.underlying46 Hi0.out Hz0.out Hz1.out Hz2.out (by rfl) _ _ _ rfl hown (by rfl) (by rfl) _ rfl hm1 hm2 hNle ?_; intro v1 w1 hown1 hg1)
        go_roundw
        case rel =>
          refine ⟨i + 1, by omega, by go_num, Lib.hid (Below.grown (hb.out.alloc hNle _) hg1 (by simp; omega) (fun k hk => (hown.lt k hk).1)), ?_⟩
          rw [HY.out, Hst.out, intsOf_snoc, intsOf_snoc, ← intCells_snoc, ← intCells_snoc, List.length_append, List.length_append, List.append_assoc]; exact hown1
        case measure => simp [intOf]; omega
      · obtain rfl : i = K.length := by omega
        rw [List.take_of_length_le (Nat.le_refl _)] at hown
        obtain ⟨av, cv, rfl, hrow⟩ := own_row hown (by rw [intCells_len, intsOf_len])
        have hbw := Hb.out.trans (hb.out.mono (by have := Hb.out.size; rw [HN.out] at this; exact this))
        have hln := Glue.ends_len K
        have hmem : ∀ m ∈ Glue.ends K, m < 18 := fun m hm => by have := Hlt.out _ (Glue.ends_mem.1 hm); omega
        generalize Glue.ends K = E at *
        have hel : E.length ≤ 18 := by omega
        have Hown := Lib.hid hown; have Hrw := Lib.hid hrow; have Hbw := Lib.hid hbw; have Hmem := Lib.hid hmem
        clear hown hrow hbw hln hmem
        go_wp2_with fail
        refine (HC.out wr (Ha.out.below (by rw [HN.out]; exact Hbw.out))).mono ?_
        rintro e w4 ⟨g, rfl, hgg, hlab, hb4⟩
        go_wp2_with fail
        refine (impl_countClasses (some ⟨g, 0, none⟩) av 18 cv 18 cc E w4 hlab.row (Hrw.out.below hb4) Hmem.out (by omega) (by omega)).mono ?_
        rintro e w5 ⟨rfl, hb5⟩
        rw [Hv.out]
        go_wp2
        go_ret
        have hb45 := hb4.trans (hb5.mono hb4.size)
        exact ⟨rfl, Hbw.out.trans (hb45.mono (by have := Hbw.out.size; rw [HN.out] at this; exact this))⟩
  · rw [if_neg hg] at hv
    rw [decide_eq_false hg] at hG
    have HG := Lib.hid hG; have Hv := Lib.hid hv
    clear hG hg ha hv
    go_enter Tryd.func70, Tryd.ntmps70
    go_wp2_with fail
    refine HG.out.mono ?_
    rintro e w1 ⟨rfl, hb1⟩
    go_wp2
    go_ret
    exact ⟨by rw [← Hv.out]; rfl, hb1⟩

set_option maxRecDepth 10000 in
set_option maxHeartbeats 2000000 in
theorem spec_EulerOf (a : Option Addr) (c : Nat) (L : List (List Int)) (w : World) (ha : GridAt w a L) (hl : tot L ≤ 1048576) :
    Calls Tryd.prog 30 #[.slice a L.length c] w fun e w' => e = .returned (.int .i64 (Glue.numEuler L)) ∧ Below w.heap.size w w' := by
  have hG := spec_IsGluing a c L w ha hl
  have hV := fun W (h : GridAt W a L) => spec_CountVertices a c L W h hl
  generalize hv : Glue.numEuler L = V
  unfold Glue.numEuler at hv
  unfold Glue.numVertices at hV
  have Ha := Lib.hid ha
  by_cases hg : Glue.IsG L
  · rw [if_pos hg] at hv
    simp only [if_pos hg] at hV
    rw [decide_eq_true hg] at hG
    have hC := fun W (h : GridAt W a L) => spec_l3Letters a c L 1 2 W h hg.w (Nat.le_trans hg.2.2.2.1 (by decide)) (Nat.le_trans hg.2.1 (by decide)) (by omega)
    rw [Glue.letters_ofN] at hC
    have hlen := Glue.lettersN_len L 1 2
    have hvl := Glue.vertices_le L
    have hl4 := hg.2.1
    have HG := Lib.hid hG; have HV := Lib.hid hV; have HC := Lib.hid hC
    clear hG hV hC hg ha
    generalize Glue.lettersN L 1 2 = K at *
    generalize Glue.vertices L = n at *
    have Hv := Lib.hid hv
    clear hv
    go_enter Tryd.func30, Tryd.ntmps30
    go_wp2_with fail
    refine HG.out.mono ?_
    rintro e w1 ⟨rfl, hb1⟩
    go_wp2_with fail
    refine (HV.out w1 (Ha.out.below hb1)).mono ?_
    rintro e w2 ⟨rfl, hb2⟩
    have hb02 := hb1.trans (hb2.mono hb1.size)
    go_wp2_with fail
    refine (HC.out w2 (Ha.out.below hb02)).mono ?_
    rintro e w3 ⟨ra, rc, rfl, h1, h2, h3, h4⟩
    rw [intsOf_len]
    have Hb := Lib.hid (hb02.trans (h4.mono hb02.size))
    clear hb1 hb2 hb02 h1 h2 h3 h4
    go_wp2
    go_ret
    exact ⟨by rw [← Hv.out]; rfl, Hb.out⟩
  · rw [if_neg hg] at hv
    rw [decide_eq_false hg] at hG
    have HG := Lib.hid hG; have Hv := Lib.hid hv
    clear hG hg ha hv hV
    go_enter Tryd.func30, Tryd.ntmps30
    go_wp2_with fail
    refine HG.out.mono ?_
    rintro e w1 ⟨rfl, hb1⟩
    go_wp2
    go_ret
    exact ⟨by rw [← Hv.out]; rfl, hb1⟩

set_option maxRecDepth 10000 in
set_option maxHeartbeats 2000000 in
theorem impl_EulerOf (a : Option Addr) (c : Nat) (L : List (List Int)) (w : World) (ha : GridAt w a L) (hl : tot L ≤ 1048576) :
    Calls Tryd.prog 40 #[.slice a L.length c] w fun e w' => e = .returned (.int .i64 (Glue.numEuler L)) ∧ Below w.heap.size w w' := by
  have hG := impl_IsGluing a c L w ha hl
  have hV := fun W (h : GridAt W a L) => impl_CountVertices a c L W h hl
  have hC := fun W (h : GridAt W a L) => impl_EdgeLetters a c L W h hl
  generalize hv : Glue.numEuler L = V
  unfold Glue.numEuler at hv
  unfold Glue.numVertices at hV
  have Ha := Lib.hid ha
  by_cases hg : Glue.IsG L
  · rw [if_pos hg] at hv
    simp only [if_pos hg] at hV
    rw [decide_eq_true hg] at hG
    rw [Glue.edgeLetters_N hg] at hC
    have hlen := Glue.lettersN_len L 1 2
    have hvl := Glue.vertices_le L
    have hl4 := hg.2.1
    have HG := Lib.hid hG; have HV := Lib.hid hV; have HC := Lib.hid hC
    clear hG hV hC hg ha
    generalize Glue.lettersN L 1 2 = K at *
    generalize Glue.vertices L = n at *
    have Hv := Lib.hid hv
    clear hv
    go_enter Tryd.func40, Tryd.ntmps40
    go_wp2_with fail
    refine HG.out.mono ?_
    rintro e w1 ⟨rfl, hb1⟩
    go_wp2_with fail
    refine (HV.out w1 (Ha.out.below hb1)).mono ?_
    rintro e w2 ⟨rfl, hb2⟩
    have hb02 := hb1.trans (hb2.mono hb1.size)
    go_wp2_with fail
    refine (HC.out w2 (Ha.out.below hb02)).mono ?_
    rintro e w3 ⟨ra, rc, rfl, h1, h2, h3, h4⟩
    rw [intsOf_len]
    have Hb := Lib.hid (hb02.trans (h4.mono hb02.size))
    clear hb1 hb2 hb02 h1 h2 h3 h4
    go_wp2
    go_ret
    exact ⟨by rw [← Hv.out]; rfl, Hb.out⟩
  · rw [if_neg hg] at hv
    rw [decide_eq_false hg] at hG
    have HG := Lib.hid hG; have Hv := Lib.hid hv
    clear hG hg ha hv hV hC
    go_enter Tryd.func40, Tryd.ntmps40
    go_wp2_with fail
    refine HG.out.mono ?_
    rintro e w1 ⟨rfl, hb1⟩
    go_wp2
    go_ret
    exact ⟨by rw [← Hv.out]; rfl, hb1⟩
end Go.Proofs.YtodgongemoabiaaDoor
