/-
  The walks of the program's and the model's ParseGraph.
-/
import Derived.Test.YtpgdmbolckogcaaDoorBase
import Derived.Test.YtpgdmbolckogcaaDoorSlice
import Derived.Test.YtpgdmbolckogcaaDoorStrs
import Derived.Test.YtpgdmbolckogcaaDoorIntRow
import Derived.Test.YtpgdmbolckogcaaDoorInts
import Derived.Test.YtpgdmbolckogcaaDoorOwn
import Derived.Test.YtpgdmbolckogcaaDoorAppend
import Derived.Test.YtpgdmbolckogcaaDoorGrid
import Derived.Test.YtpgdmbolckogcaaDoorGridWalk
import Derived.Test.YtpgdmbolckogcaaDoorGridRows
import Derived.Test.YtpgdmbolckogcaaDoorSplit
import Derived.Test.YtpgdmbolckogcaaDoorSplitImpl
import Derived.Test.YtpgdmbolckogcaaDoorGivesRows
import Derived.Test.YtpgdmbolckogcaaDoorRowI
import Derived.Test.YtpgdmbolckogcaaDoorRowsLit
import Derived.Test.YtpgdmbolckogcaaDoorGraph
import Derived.Test.YtpgdmbolckogcaaDoorGraphA
import Derived.Test.YtpgdmbolckogcaaDoorGraphA2
import Derived.Test.YtpgdmbolckogcaaDoorStepRow
import Derived.Deep.RegionHeld3
import Derived.Deep.QuietTactic
import Derived.BigQuiet
namespace Go.Proofs.YtpgdmbolckogcaaDoor
open Go.RowKit

namespace Gr
/-- The numbers that the bytes of a text stand for. -/
def ed (p : ByteArray) : List Int := p.data.toList.map fun b => (b.toNat : Int) - 48
theorem ed_len (p : ByteArray) : (ed p).length = p.size := by simp [ed]
def edRows (ps : List ByteArray) : List (List Int) := ps.map ed
theorem edRows_len (ps : List ByteArray) : (edRows ps).length = ps.length := by simp [edRows]
theorem edRows_snoc {ps : List ByteArray} {i : Nat} {p : ByteArray} (h : ps[i]? = some p) : edRows (ps.take (i + 1)) = edRows (ps.take i) ++ [ed p] := by
  obtain ⟨h1, rfl⟩ := List.getElem?_eq_some_iff.1 h
  unfold edRows
  rw [List.take_succ_eq_append_getElem h1, List.map_append]; rfl
theorem edRows_get {ps : List ByteArray} {i : Nat} {p : ByteArray} (h : ps[i]? = some p) : (edRows ps)[i]? = some (ed p) := by unfold edRows; rw [List.getElem?_map, h]; rfl
def ParseOk (s : ByteArray) : Prop := IsG (edRows (Split.pieces 32 s))
instance (s : ByteArray) : Decidable (ParseOk s) := by unfold ParseOk; exact inferInstance
def parsedG (s : ByteArray) : List (List Int) := if ParseOk s then edRows (Split.pieces 32 s) else []
theorem parsedG_tot (s : ByteArray) : tot (parsedG s) ≤ 1000000 := by
  unfold parsedG; split
  · rename_i h; exact isG_tot h
  · decide
theorem bad_piece {s : ByteArray} {i : Nat} {p : ByteArray} (h : (Split.pieces 32 s)[i]? = some p) (hn : p.size ≠ 2) : ¬ ParseOk s := fun ho => isG_not (edRows_get h) (isE_len (by rw [ed_len]; exact hn)) ho
theorem parts_sum (c : UInt8) : ∀ l : List UInt8, ((Split.parts c l).map List.length).sum ≤ l.length
  | [] => by simp [Split.parts]
  | b :: r => by
    have ih := parts_sum c r
    unfold Split.parts
    split
    · simp; omega
    · obtain ⟨p, ps, e⟩ := Split.parts_cons c r
      rw [e] at ih ⊢
      simp only [List.map_cons, List.sum_cons, List.length_cons] at ih ⊢
      omega
theorem rows_tot (s : ByteArray) : tot (edRows (Split.pieces 32 s)) ≤ 2 * s.size + 1 := by
  have h1 : (Split.pieces 32 s).length ≤ s.size + 1 := Split.pieces_length 32 s
  have h2 : sumLen (edRows (Split.pieces 32 s)) ≤ s.size := by
    have e : (edRows (Split.pieces 32 s)).map List.length = (Split.parts 32 s.data.toList).map List.length := by
      rw [← Split.pieces_data]
      unfold edRows
      rw [List.map_map, List.map_map]
      exact List.map_congr_left fun p _ => by simp [ed]
    unfold sumLen
    rw [e]
    have := parts_sum 32 s.data.toList
    simpa using this
  unfold tot
  rw [edRows_len]; omega
theorem ed_step {p : ByteArray} {i : Nat} (h : i < p.size) : (ed p).take (i + 1) = (ed p).take i ++ [((p[i]'h).toNat : Int) - 48] := by
  have h' : i < (ed p).length := by rw [ed_len]; exact h
  rw [List.take_succ_eq_append_getElem h']
  congr 2
  simp [ed]; rfl
theorem ed_two {p : ByteArray} (h : p.size = 2) : ed p = [((p[0]'(by omega)).toNat : Int) - 48, ((p[1]'(by omega)).toNat : Int) - 48] := by
  have h1 := ed_step (p := p) (i := 0) (by omega)
  have h2 := ed_step (p := p) (i := 1) (by omega)
  rw [List.take_zero, List.nil_append] at h1
  rw [h1, List.take_of_length_le (by rw [ed_len]; omega)] at h2
  exact h2
theorem cell_of {w : World} {lo hi i b o : Nat} {p : ByteArray} {ps : List ByteArray} (h : RowIn w lo hi 9 (some ⟨b, o, none⟩) (strCells ps)) (hp0 : ps[i]? = some p) : w.cell? ⟨b, o + i, none⟩ = some (.string p) := by
  obtain ⟨hi, hp⟩ := List.getElem?_eq_some_iff.1 hp0
  obtain ⟨b2, o2, e2, _, h2⟩ := strCells_at h.row hi
  cases e2; rw [hp] at h2; exact h2
theorem parse_cases (s : ByteArray) : ∃ R b, (parsedG s = R ∧ decide (ParseOk s) = b) ∧ (IsG (edRows (Split.pieces 32 s)) → R = edRows (Split.pieces 32 s) ∧ b = true) ∧ (¬ IsG (edRows (Split.pieces 32 s)) → R = [] ∧ b = false) :=
  ⟨_, _, ⟨rfl, rfl⟩, fun h => ⟨if_pos h, decide_eq_true h⟩, fun h => ⟨if_neg h, decide_eq_false h⟩⟩
end Gr
theorem GivesRows.with2 {w w' : World} {L : List (List Int)} {v : Value} (h : GivesRows w L (.returned v) w') (b : Bool) : GivesRows2 w L b (.returned (.tuple #[v, .bool b])) w' := by
  obtain ⟨a, c, e, h1, h2, h3, h4⟩ := h
  cases e; exact ⟨a, c, rfl, h1, h2, h3, h4⟩
theorem GivesRows.after7 {w w1 w2 : World} {L : List (List Int)} {v : Value} (h : GivesRows w L (.returned v) w1) (hb : Below w1.heap.size w1 w2) : GivesRows w L (.returned v) w2 := by
  obtain ⟨a, c, e, h1, h2, h3, h4⟩ := h
  exact ⟨a, c, e, h1, h2, (h3.below hb).mono (Nat.le_refl _) hb.size, h4.trans (hb.mono h4.size)⟩

set_option maxRecDepth 10000 in
set_option maxHeartbeats 2000000 in
theorem impl_edgeOfText (p : ByteArray) (w : World) (hp : p.size ≤ 1048576) :
    Calls Tryd.prog 51 #[.string p] w fun e w' => Gives w (Gr.ed p) e w' := by
  obtain ⟨i0, hi0, hz0, hz1, hz2⟩ := info_int_parts
  have Hi0 := Lib.hid hi0; have Hz0 := Lib.hid hz0; have Hz1 := Lib.hid hz1; have Hz2 := Lib.hid hz2
  clear hi0 hz0 hz1 hz2
  obtain ⟨N, hN⟩ : ∃ N, N = w.heap.size := ⟨_, rfl⟩
  have HN := Lib.hid hN; clear hN
  go_enter Tryd.func51, Tryd.ntmps51
  go_wp2
  go_loopw [3, 4, 7] (fun ov _ iv wr => ∃ i : Nat, i ≤ p.size ∧ iv = .int .i64 i ∧ Hid (RowI w N wr ov ((Gr.ed p).take i))) (fun _ _ iv _ => p.size - (intOf iv).toNat)
  case atStart => exact ⟨0, by omega, rfl, Lib.hid (RowI.nil ((Below.refl _ _).mono (by rw [HN.out]; exact Nat.le_refl _)))⟩
  case round =>
    obtain ⟨i, hi, rfl, hrow⟩ := hrel
    by_cases hlt : i < p.size
    · have hb := hrow.out.2
      have hNle : N ≤ wr.heap.size := by have := hb.size; have := HN.out; omega
      have hst := Gr.ed_step hlt
      have hln : ((Gr.ed p).take i).length = i := by rw [List.length_take, Gr.ed_len]; omega
      have hb256 := UInt8.toNat_lt (p[i]'hlt)
      have hown := hrow.out.1
      rw [hln] at hown
      generalize hby : p[i]'hlt = by0 at *
      have Hst := Lib.hid hst; have Hln := Lib.hid hln
      have hm1 : i + 1 ≤ maxLen := by unfold maxLen; omega
      have hm2 : (i + 1) * 8 ≤ 140737488355328 := by omega
      have hi63 : (i : Int) ≤ 1048576 := by omega
      have hwr : IntKind.i64.wrap ((by0.toNat : Int) - 48) = (by0.toNat : Int) - 48 := wrap_small (by omega) (by omega)
      obtain ⟨av, cv, rfl⟩ := own_len hown
      clear hst hb hln
      go_wp2_with (at_builtin; refine append_one rfl (.tmp 10) (.tmp 16) 36 rfl N 3 i0 _ 8 Tryd.underlying36 Hi0.out Hz0.out Hz1.out Hz2.out (by rfl) _ _ _ rfl hown (by rfl) _ rfl hm1 hm2 hNle ?_; intro v3 w3 hown3 hg3 _; obtain ⟨a3, c3, rfl⟩ := own_len hown3)
      go_roundw
      case rel => exact ⟨i + 1, by omega, by go_num, Lib.hid (by rw [Hst.out]; exact hrow.out.more hNle (by rw [Hln.out]; exact hown3) hg3)⟩
      case measure => simp [intOf] <;> omega
    · obtain rfl : i = p.size := by omega
      clear hlt
      go_wp2
      go_ret
      have h := hrow.out
      rw [HN.out, List.take_of_length_le (by rw [Gr.ed_len]; exact Nat.le_refl _)] at h
      exact h.gives

set_option maxRecDepth 10000 in
set_option maxHeartbeats 4000000 in
theorem impl_ParseGraph (s : ByteArray) (w : World) (hsh : w.ShapedOpen Tryd.prog) (hs : s.size ≤ 1048576) :
    Calls Tryd.prog 12 #[.string s] w fun e w' => GivesRows2 w (Gr.parsedG s) (decide (Gr.ParseOk s)) e w' := by
  have hsp := impl_SplitByte s 32 w hsh hs
  have hplen : (Split.pieces 32 s).length ≤ s.size + 1 := Split.pieces_length 32 s
  have hpsz := fun q (h : q ∈ Split.pieces 32 s) => Split.pieces_small 32 s q h
  have htot := Gr.rows_tot s
  have hG : Gr.parsedG s = if Gr.IsG (Gr.edRows (Split.pieces 32 s)) then Gr.edRows (Split.pieces 32 s) else [] := rfl
  have hok : decide (Gr.ParseOk s) = decide (Gr.IsG (Gr.edRows (Split.pieces 32 s))) := rfl
  obtain ⟨R0, bo, hRb, hyes, hno⟩ := Gr.parse_cases s
  rw [hRb.1, hRb.2]
  clear hok hG hRb
  generalize Split.pieces 32 s = ps at *
  have Hyes := Lib.hid hyes; have Hno := Lib.hid hno
  clear hyes hno
  obtain ⟨i0, hi0, hz0, hz1, hz2⟩ := info_ints_parts
  have Hi0 := Lib.hid hi0; have Hz0 := Lib.hid hz0; have Hz1 := Lib.hid hz1; have Hz2 := Lib.hid hz2
  have Hsp := Lib.hid hsp; have Hpsz := Lib.hid hpsz; have Htot := Lib.hid htot
  clear hsp hpsz hi0 hz0 hz1 hz2 htot
  go_enter Tryd.func12, Tryd.ntmps12
  go_wp2_with fail
  refine Hsp.out.mono ?_
  rintro e w1 ⟨⟨pg, rfl, hpg, hpb⟩, hb1⟩
  have hpl : (strCells ps).length = ps.length := by simp [strCells]
  rw [hpl]
  have hpb2 : RowIn w1 w.heap.size w1.heap.size 9 (some ⟨pg, 0, none⟩) (strCells ps) := RowIn.of_blk hpb hpg hpb.lt
  have Hb1 := Lib.hid hb1
  generalize hB : w1.heap.size = B at *
  have Hpr2 : Hid (RowIn w1 w.heap.size B 9 (some ⟨pg, 0, none⟩) (strCells ps)) := Lib.hid hpb2
  clear hpb2 hpb hpg hb1 hpl
  go_wp2
  go_loopw [4, 6, 10] (fun ov _ iv wr => ∃ i : Nat, i ≤ ps.length ∧ iv = .int .i64 i ∧ Hid (RowsIn w w.heap.size wr ov (Gr.edRows (ps.take i))) ∧ Hid (RowIn wr w.heap.size B 9 (some ⟨pg, 0, none⟩) (strCells ps))) (fun _ _ iv _ => ps.length - (intOf iv).toNat)
  case atStart => exact ⟨0, by omega, rfl, Lib.hid (RowsIn.nil Hb1.out), Hpr2⟩
  case round =>
    obtain ⟨i, hi, rfl, hrows, hpr⟩ := hrel
    by_cases hlt : i < ps.length
    · obtain ⟨p, hp⟩ := get_some hlt
      have hcell0 := strCells_at hpr.out.row hlt
      have hpi : ps[i] = p := by rw [List.getElem?_eq_getElem hlt] at hp; exact Option.some.inj hp
      rw [hpi] at hcell0
      obtain ⟨b, o, e0, hbw, hcell⟩ := hcell0
      cases e0
      rw [Nat.zero_add] at hcell
      have hE := impl_edgeOfText p wr (Nat.le_trans (Hpsz.out p (get_mem hp)) hs)
      have hsn := Gr.edRows_snoc hp
      obtain ⟨hs', e1, hown, hin, hap, hbl⟩ := hrows.out
      have hll : (Gr.edRows (ps.take i)).length = i := by rw [Gr.edRows_len, List.length_take]; omega
      rw [hll] at hown
      have hN : w.heap.size ≤ wr.heap.size := hbl.size
      have HE := Lib.hid hE; have Hsn := Lib.hid hsn; have Hlt := Lib.hid hlt
      have Hpush := Lib.hid (fun w8 w9 (q : Option Addr) (cq : Nat) v9 (h8 : Below wr.heap.size wr w8) hf hlc h9 (hg9 : (w8.alloc (.cells #[.slice q (Gr.ed p).length cq] 36)).grownBy w9 _) => RowsIn.push (w8 := w8) (w9 := w9) (a := q) (c := cq) (l := Gr.ed p) (v9 := v9) e1 (by rw [hll]; exact hown) hin hap hbl hN h8 hf hlc h9 hg9)
      have Hll := Lib.hid hll
      obtain ⟨av, cv, rfl⟩ := own_len hown
      have Hown := Lib.hid hown
      have hm1 : i + 1 ≤ maxLen := by unfold maxLen; omega
      have hm2 : (i + 1) * 24 ≤ 140737488355328 := by omega
      have hi63 : (i : Int) ≤ 1048577 := by omega
      have h0i : (0 : Int) ≤ (i : Int) := by omega
      have h1i : (i : Int) < (ps.length : Int) := by omega
      clear hE hsn e1 hin hap hbl hown hpi hp hlt hll
      go_wp2_with fail
      refine HE.out.mono ?_
      rintro e w2 ⟨a2, c2, rfl, hlc, _, hf, hb2⟩
      have hown2 := own_keep Hown.out hb2 (fun k hk => (Hown.out.lt k hk).2)
      have hN2 : w.heap.size ≤ w2.heap.size := Nat.le_trans hN hb2.size
      have Hf := Lib.hid hf; have Hb2 := Lib.hid hb2; have Hlc := Lib.hid hlc
      clear hf hb2 hlc hcell
      generalize hel : (Gr.ed p).length = el at *
      have Hel := Lib.hid hel
      clear hel
      go_wp2_with (at_builtin; refine append_one rfl (.tmp 14) (.tmp 17) 22 rfl w.heap.size 36 i0 _ 24 Tryd.underlying22 Hi0.out Hz0.out Hz1.out Hz2.out (by rfl) _ _ _ rfl hown2 (by rfl) _ rfl hm1 hm2 hN2 ?_; intro v9 w9 hown9 hg9 _; obtain ⟨a9, c9, rfl⟩ := own_len hown9)
      have Hpr9 := Lib.hid (((hpr.out.below Hb2.out).below ((Below.refl w2.heap.size w2).alloc (Nat.le_refl _) _)).grownOf hg9 (by decide) (own_type (hown2.alloc _)))
      have hfin := Hpush.out w2 w9 a2 c2 _ Hb2.out Hf.out Hlc.out (by rw [Hll.out]; exact hown9) hg9
      have Hfin := Lib.hid hfin
      clear hfin hown9 hg9
      go_roundw
      case rel => exact ⟨i + 1, Hlt.out, by go_num, Lib.hid (by rw [Hsn.out]; exact Hfin.out), Hpr9⟩
      case measure => have := Hlt.out; simp [intOf] <;> omega
    · obtain rfl : i = ps.length := by omega
      have hrw := hrows.out
      rw [List.take_of_length_le (Nat.le_refl _)] at hrw
      have hg := hrw.gives
      obtain ⟨ga, gc, e, hgc, hgm, hgi, hgb⟩ := hg
      cases e
      have hI := impl_IsGraph_big ga gc (Gr.edRows ps) wr hgi.grid (by have := Htot.out; omega)
      have hg2 : GivesRows w (Gr.edRows ps) (.returned (.slice ga (Gr.edRows ps).length gc)) wr := ⟨ga, gc, rfl, hgc, hgm, hgi, hgb⟩
      have Hg2 := Lib.hid hg2
      clear hlt hrw hgc hgm hgi hgb hg2
      by_cases hok : Gr.IsG (Gr.edRows ps)
      · obtain ⟨rfl, rfl⟩ := Hyes.out hok
        rw [decide_eq_true hok] at hI
        have HI := Lib.hid hI
        clear hI hok
        go_wp2_with fail
        refine HI.out.mono ?_
        rintro e w2 ⟨rfl, hb2⟩
        have Hb2 := Lib.hid hb2
        clear hb2
        go_wp2
        go_ret2
        exact (Hg2.out.after7 Hb2.out).with2 true
      · obtain ⟨rfl, rfl⟩ := Hno.out hok
        rw [decide_eq_false hok] at hI
        have HI := Lib.hid hI
        clear hI hok
        generalize Gr.edRows ps = R at *
        go_wp2_with fail
        refine HI.out.mono ?_
        rintro e w2 ⟨rfl, hb2⟩
        obtain ⟨_, _, _, _, _, _, hb4⟩ := Hg2.out.after7 hb2
        have Hb4 := Lib.hid hb4
        clear hb2 hb4
        go_wp2
        go_ret2
        exact GivesRows2.none Hb4.out (by unfold maxLen; omega)

set_option maxRecDepth 10000 in
set_option maxHeartbeats 4000000 in
theorem spec_ParseGraph (s : ByteArray) (w : World) (hs : s.size ≤ 1048576) :
    Calls Tryd.prog 11 #[.string s] w fun e w' => GivesRows2 w (Gr.parsedG s) (decide (Gr.ParseOk s)) e w' := by
  have hsp := fun W => spec_SplitByte s 32 W hs
  have hplen : (Split.pieces 32 s).length ≤ s.size + 1 := Split.pieces_length 32 s
  have htot := Gr.rows_tot s
  have hbad := fun i p (h : (Split.pieces 32 s)[i]? = some p) => Gr.bad_piece (s := s) (i := i) (p := p) h
  have hG : Gr.parsedG s = if Gr.IsG (Gr.edRows (Split.pieces 32 s)) then Gr.edRows (Split.pieces 32 s) else [] := rfl
  have hok : decide (Gr.ParseOk s) = decide (Gr.IsG (Gr.edRows (Split.pieces 32 s))) := rfl
  have hbad2 : ∀ i (p : ByteArray), (Split.pieces 32 s)[i]? = some p → p.size ≠ 2 → ¬ Gr.IsG (Gr.edRows (Split.pieces 32 s)) := fun i p h hn => hbad i p h hn
  obtain ⟨R0, bo, hRb, hyes, hno⟩ := Gr.parse_cases s
  rw [hRb.1, hRb.2]
  clear hok hG hbad hRb
  generalize Split.pieces 32 s = ps at *
  have Hyes := Lib.hid hyes; have Hno := Lib.hid hno
  clear hyes hno
  obtain ⟨i0, hi0, hz0, hz1, hz2⟩ := info_ints_parts
  have Hi0 := Lib.hid hi0; have Hz0 := Lib.hid hz0; have Hz1 := Lib.hid hz1; have Hz2 := Lib.hid hz2
  have Hsp := Lib.hid hsp; have Htot := Lib.hid htot; have Hbad := Lib.hid hbad2
  clear hsp hi0 hz0 hz1 hz2 htot hbad2
  obtain ⟨N, hN⟩ : ∃ N, N = w.heap.size := ⟨_, rfl⟩
  have HN := Lib.hid hN
  have hm0 : RowsIn w N (w.alloc (.cells #[] 36)) (.slice (some ⟨w.heap.size, 0, none⟩) 0 0) [] := RowsIn.made (N := N) ((Below.refl w.heap.size w).mono (by omega)) (by omega)
  have Hm0 := Lib.hid hm0
  clear hm0 hN
  go_enter Tryd.func11, Tryd.ntmps11
  go_wp2_with fail
  refine (Hsp.out _).mono ?_
  rintro e w1 ⟨⟨pv, rfl, hpo⟩, hb1⟩
  have hsz : (w.alloc (.cells #[] 36)).heap.size = w.heap.size + 1 := by simp
  obtain ⟨av, cv, rfl, _, hpf⟩ := own_fresh hpo (by simp [strCells])
  rw [hsz] at hpf hb1
  have hm1 : RowsIn w N w1 (.slice (some ⟨w.heap.size, 0, none⟩) 0 0) [] := by
    obtain ⟨hs', e1, hown, hin, hap, hbl⟩ := Hm0.out
    have hs0 : hs' = [] := by simpa using e1
    subst hs0
    exact ⟨[], rfl, own_keep hown hb1 (fun k hk => by have := own_block hk; omega), fun _ h => (by cases h), Apts.nil, hbl.trans (hb1.mono (by have := HN.out; omega))⟩
  have hpb2 : RowIn w1 (w.heap.size + 1) w1.heap.size 9 av (strCells ps) := RowIn.of_fresh hpf
  have Hm1 := Lib.hid hm1
  generalize hB : w1.heap.size = B at *
  have Hpr2 : Hid (RowIn w1 (w.heap.size + 1) B 9 av (strCells ps)) := Lib.hid hpb2
  clear hpb2 hpf hpo hb1 hm1 hsz
  go_wp2
  go_loopw [4, 6] (fun ov iv wr => ∃ i : Nat, i ≤ ps.length ∧ iv = .int .i64 i ∧ Hid (RowsIn w N wr ov (Gr.edRows (ps.take i))) ∧ Hid (RowIn wr (w.heap.size + 1) B 9 av (strCells ps))) (fun _ iv _ => ps.length - (intOf iv).toNat)
  case atStart => exact ⟨0, by omega, rfl, Hm1, Hpr2⟩
  case round =>
    obtain ⟨i, hi, rfl, hrows, hpr⟩ := hrel
    by_cases hlt : i < ps.length
    · obtain ⟨p, hp⟩ := get_some hlt
      have hcell0 := strCells_at hpr.out.row hlt
      have hpi : ps[i] = p := by rw [List.getElem?_eq_getElem hlt] at hp; exact Option.some.inj hp
      rw [hpi] at hcell0
      obtain ⟨b, o, rfl, hbw, hcell⟩ := hcell0
      have h0i : (0 : Int) ≤ (i : Int) := by omega
      have h1i : (i : Int) < (ps.length : Int) := by omega
      have hi63 : (i : Int) ≤ 1048577 := by omega
      by_cases h2 : p.size = 2
      · have hq : ((p.size : Int) != 2) = false := by rw [h2]; rfl
        have hsn := Gr.edRows_snoc hp
        rw [Gr.ed_two h2] at hsn
        obtain ⟨hs', e1, hown, hin, hap, hbl⟩ := hrows.out
        have hll : (Gr.edRows (ps.take i)).length = i := by rw [Gr.edRows_len, List.length_take]; omega
        rw [hll] at hown
        have hN : N ≤ wr.heap.size := by have := hbl.size; have := HN.out; omega
        have g0 : 0 < p.size := by omega
        have g1 : 1 < p.size := by omega
        have k0 : (0 : Int) < (p.size : Int) := by omega
        have k1 : (1 : Int) < (p.size : Int) := by omega
        have u0 := UInt8.toNat_lt (p[0]'g0)
        have u1 := UInt8.toNat_lt (p[1]'g1)
        generalize hb0 : p[0]'g0 = b0 at *
        generalize hb1 : p[1]'g1 = b1 at *
        have wr0 : IntKind.i64.wrap ((b0.toNat : Int) - 48) = (b0.toNat : Int) - 48 := wrap_small (by omega) (by omega)
        have wr2 : IntKind.i64.wrap (b0.toNat : Int) = (b0.toNat : Int) := wrap_small (by omega) (by omega)
        have wr3 : IntKind.i64.wrap (b1.toNat : Int) = (b1.toNat : Int) := wrap_small (by omega) (by omega)
        have wr1 : IntKind.i64.wrap ((b1.toNat : Int) - 48) = (b1.toNat : Int) - 48 := wrap_small (by omega) (by omega)
        have Hsn := Lib.hid hsn; have Hlt := Lib.hid hlt; have Hpi := Lib.hid hp
        have Hpush := Lib.hid (fun w9 v9 h9 hg9 => RowsIn.more (w3 := w9) (v3 := v9) (x := (b0.toNat : Int) - 48) (y := (b1.toNat : Int) - 48) (c := 2) e1 (by rw [hll]; exact hown) hin hap hbl hN (Nat.le_refl _) h9 hg9)
        have Hll := Lib.hid hll
        obtain ⟨av2, cv2, rfl⟩ := own_len hown
        have Hown := Lib.hid hown
        have hm1 : i + 1 ≤ maxLen := by unfold maxLen; omega
        have hm2 : (i + 1) * 24 ≤ 140737488355328 := by omega
        have hW : ((wr.alloc (.cells #[.int .i64 ((b0.toNat : Int) - 48), .int .i64 ((b1.toNat : Int) - 48)] 3)).alloc (.cells #[.slice (some ⟨wr.heap.size, 0, none⟩) 2 2] 36)).heap.size = wr.heap.size + 2 := by simp
        have Hown2 : Hid (((wr.alloc (.cells #[.int .i64 ((b0.toNat : Int) - 48), .int .i64 ((b1.toNat : Int) - 48)] 3)).alloc (.cells #[.slice (some ⟨wr.heap.size, 0, none⟩) 2 2] 36)).drew.ownsRow N 36 1 (.slice av2 i cv2) i (hdCells hs')) := Lib.hid ((Hown.out.alloc _).alloc _).drew
        have Hrow2 : Hid (RowAt ((wr.alloc (.cells #[.int .i64 ((b0.toNat : Int) - 48), .int .i64 ((b1.toNat : Int) - 48)] 3)).alloc (.cells #[.slice (some ⟨wr.heap.size, 0, none⟩) 2 2] 36)).drew (some ⟨wr.heap.size + 1, 0, none⟩) [.slice (some ⟨wr.heap.size, 0, none⟩) 2 2]) := Lib.hid (by
          have h := Blk.new (wr.alloc (.cells #[.int .i64 ((b0.toNat : Int) - 48), .int .i64 ((b1.toNat : Int) - 48)] 3)) 36 #[.slice (some ⟨wr.heap.size, 0, none⟩) 2 2]
          rw [show (wr.alloc (.cells #[.int .i64 ((b0.toNat : Int) - 48), .int .i64 ((b1.toNat : Int) - 48)] 3)).heap.size = wr.heap.size + 1 from by simp] at h
          exact h.drew.row)
        have hNW : N ≤ ((wr.alloc (.cells #[.int .i64 ((b0.toNat : Int) - 48), .int .i64 ((b1.toNat : Int) - 48)] 3)).alloc (.cells #[.slice (some ⟨wr.heap.size, 0, none⟩) 2 2] 36)).drew.heap.size := by show N ≤ ((wr.alloc _).alloc _).heap.size; rw [hW]; omega
        clear hsn e1 hin hap hbl hown hpi hp hlt hll h2 hW
        have HprW := Lib.hid (hpr.out.below (Below.drew (((Below.refl wr.heap.size wr).alloc (Nat.le_refl _) (.cells #[.int .i64 ((b0.toNat : Int) - 48), .int .i64 ((b1.toNat : Int) - 48)] 3)).alloc (by simp) (.cells #[.slice (some ⟨wr.heap.size, 0, none⟩) 2 2] 36))))
        have HKd : Hid (wr.drew.cell? ⟨b, o + i, none⟩ = some (.string p)) := Lib.hid hcell
        have HK1 : Hid ((wr.alloc (.cells #[.int .i64 ((b0.toNat : Int) - 48), .int .i64 ((b1.toNat : Int) - 48)] 3)).drew.cell? ⟨b, o + i, none⟩ = some (.string p)) := Lib.hid (Gr.cell_of (hpr.out.below (Below.drew ((Below.refl wr.heap.size wr).alloc (Nat.le_refl _) (.cells #[.int .i64 ((b0.toNat : Int) - 48), .int .i64 ((b1.toNat : Int) - 48)] 3)))) Hpi.out)
        have HK2 : Hid (((wr.alloc (.cells #[.int .i64 ((b0.toNat : Int) - 48), .int .i64 ((b1.toNat : Int) - 48)] 3)).alloc (.cells #[.slice (some ⟨wr.heap.size, 0, none⟩) 2 2] 36)).drew.cell? ⟨b, o + i, none⟩ = some (.string p)) := Lib.hid (Gr.cell_of HprW.out Hpi.out)
        go_wp2
        try clear c0
        clear hcell
        go_region_held3 (fun w' => w'.cell? ⟨b, o + i, none⟩ = some (.string p)) (first | (with_reducible assumption) | (with_reducible exact HKd.out) | (with_reducible exact HK1.out) | (with_reducible exact HK2.out)) ((refine step_append_row rfl (.tmp 23) (.tmp 39) 22 rfl N 36 i0 _ 24 Tryd.underlying22 Hi0.out Hz0.out Hz1.out Hz2.out (by rfl) _ _ _ (by rfl) Hown2.out _ 1 _ [.slice (some ⟨wr.heap.size, 0, none⟩) 2 2] (by rfl) Hrow2.out rfl (fun u hu => by rw [List.mem_singleton.1 hu]; rfl) hm1 hm2 hNW ?_; intro v9 w9 hown9 hg9; have Hpr9 := Lib.hid (HprW.out.grownOf hg9 (by decide) (own_type Hown2.out)); have hS9 : w9.cell? ⟨b, o + i, none⟩ = some (.string p) := Gr.cell_of Hpr9.out Hpi.out; obtain ⟨a9, c9, rfl⟩ := own_len hown9))
        all_goals
          have hfin := Hpush.out w9 _ (by rw [Hll.out]; exact hown9) ⟨hg9.os, hg9.tape, hg9.output, hg9.size, hg9.block⟩
          have Hfin := Lib.hid hfin
          clear hfin hown9 hg9 hS9
          go_wp2
          go_roundw
          case rel => exact ⟨i + 1, Hlt.out, by go_num, Lib.hid (by rw [Hsn.out]; exact Hfin.out), Hpr9⟩
          case measure => have := Hlt.out; simp [intOf] <;> omega
      · have hq : ((p.size : Int) != 2) = true := bne_iff_ne.2 (by omega)
        have hno := Hbad.out i p hp h2
        obtain ⟨rfl, rfl⟩ := Hno.out hno
        obtain ⟨_, _, _, _, _, hbl⟩ := hrows.out
        rw [HN.out] at hbl
        have Hbl := Lib.hid hbl
        clear hno hbl hpi hp h2
        go_wp2
        go_ret2
        exact GivesRows2.none (Hbl.out.alloc Hbl.out.size _) (by unfold maxLen; omega)
    · obtain rfl : i = ps.length := by omega
      have hrw := hrows.out
      rw [List.take_of_length_le (Nat.le_refl _), HN.out] at hrw
      have hg := hrw.gives
      obtain ⟨ga, gc, e, hgc, hgm, hgi, hgb⟩ := hg
      cases e
      have hI := spec_IsGraph_big ga gc (Gr.edRows ps) wr hgi.grid (by have := Htot.out; omega)
      have hg2 : GivesRows w (Gr.edRows ps) (.returned (.slice ga (Gr.edRows ps).length gc)) wr := ⟨ga, gc, rfl, hgc, hgm, hgi, hgb⟩
      have Hg2 := Lib.hid hg2
      clear hlt hrw hgc hgm hgi hgb hg2
      by_cases hok : Gr.IsG (Gr.edRows ps)
      · obtain ⟨rfl, rfl⟩ := Hyes.out hok
        rw [decide_eq_true hok] at hI
        have HI := Lib.hid hI
        clear hI hok
        go_wp2_with fail
        refine HI.out.mono ?_
        rintro e w2 ⟨rfl, hb2⟩
        have Hb2 := Lib.hid hb2
        clear hb2
        go_wp2
        go_ret2
        exact (Hg2.out.after7 Hb2.out).with2 true
      · obtain ⟨rfl, rfl⟩ := Hno.out hok
        rw [decide_eq_false hok] at hI
        have HI := Lib.hid hI
        clear hI hok
        generalize Gr.edRows ps = R at *
        go_wp2_with fail
        refine HI.out.mono ?_
        rintro e w2 ⟨rfl, hb2⟩
        obtain ⟨_, _, _, _, _, _, hb4⟩ := Hg2.out.after7 hb2
        have Hb4 := Lib.hid hb4
        clear hb2 hb4
        go_wp2
        go_ret2
        exact GivesRows2.none (Hb4.out.alloc Hb4.out.size _) (by unfold maxLen; omega)
end Go.Proofs.YtpgdmbolckogcaaDoor
