/-
  The walks of the program's and the model's ParseGluing.
-/
import Derived.Test.YtfhecfggfccajaaDoorBase
import Derived.Test.YtfhecfggfccajaaDoorSlice
import Derived.Test.YtfhecfggfccajaaDoorStrs
import Derived.Test.YtfhecfggfccajaaDoorIntRow
import Derived.Test.YtfhecfggfccajaaDoorInts
import Derived.Test.YtfhecfggfccajaaDoorOwn
import Derived.Test.YtfhecfggfccajaaDoorWord
import Derived.Test.YtfhecfggfccajaaDoorGrid
import Derived.Test.YtfhecfggfccajaaDoorGridWalk
import Derived.Test.YtfhecfggfccajaaDoorGlue
import Derived.Test.YtfhecfggfccajaaDoorIsWord
import Derived.Test.YtfhecfggfccajaaDoorIsGluing
import Derived.Test.YtfhecfggfccajaaDoorSplit
import Derived.Test.YtfhecfggfccajaaDoorSplitImpl
import Derived.Test.YtfhecfggfccajaaDoorParseWord
import Derived.Test.YtfhecfggfccajaaDoorParseImpl
namespace Go.Proofs.YtfhecfggfccajaaDoor
open Go.RowKit

theorem RowIn.grown {w w' : World} {lo hi : Nat} {t : TypeId} {a : Option Addr} {cs : List Value} {row : Option Nat} (h : RowIn w lo hi t a cs) (hg : w.grownBy w' row) {e : TypeId} (he : e ≠ t) (hr : ∀ k, row = some k → ∃ cur, w.heap[k]? = some (.cells cur e (0, 0))) : RowIn w' lo hi t a cs := by
  rcases h with h | ⟨g, o, all, rfl, h3, h4, hk, hc⟩
  · exact Or.inl h
  · refine Or.inr ⟨g, o, all, rfl, h3, h4, hk.grown hg (fun e' => ?_), hc⟩
    obtain ⟨cur, h5⟩ := hr g e'.symm
    unfold Blk at hk
    rw [hk] at h5
    injection h5 with h5; injection h5 with _ h6 _
    exact he h6.symm
theorem own_type {w : World} {base n : Nat} {e : TypeId} {v : Value} {xs : List Value} (h : w.ownsRow base e 1 v n xs) : ∀ k, v.ownBlock = some k → ∃ cur, w.heap[k]? = some (.cells cur e (0, 0)) := by
  intro k hk
  rcases h.2 with ⟨rfl, _⟩ | ⟨g, cap, cur, rfl, _, hh, _⟩
  · cases hk
  · cases hk; exact ⟨cur, hh⟩
/-- One polygon more. -/
theorem grid_step {N i c : Nat} {hs : List Hd} {wr w2 w3 : World} {ov : Value} {a : Option Addr} {l : List Int} {o : Obj} (hin : ∀ h ∈ hs, RowIn wr N wr.heap.size 3 h.a (intCells h.l)) (hap : hs.Pairwise Apart)
    (hown : w2.ownsRow N 32 1 ov i (hdCells hs)) (hN : N ≤ wr.heap.size) (hf : Fresh w2 wr.heap.size 3 a (intCells l)) (hb : Below wr.heap.size wr w2) (hg : (w2.alloc o).grownBy w3 ov.ownBlock) :
    (∀ h ∈ hs ++ [(⟨a, c, l⟩ : Hd)], RowIn w3 N w3.heap.size 3 h.a (intCells h.l)) ∧ (hs ++ [(⟨a, c, l⟩ : Hd)]).Pairwise Apart := by
  have hal : Below w2.heap.size w2 (w2.alloc o) := (Below.refl w2.heap.size w2).alloc (Nat.le_refl _) o
  have hty := own_type (hown.alloc o)
  have hs3 : w2.heap.size ≤ w3.heap.size := Nat.le_trans hal.size hg.size
  have hs2 := hb.size
  have hold : ∀ h ∈ hs, RowIn w3 N wr.heap.size 3 h.a (intCells h.l) := fun h hh => (((hin h hh).below hb).below hal).grown hg (by decide) hty
  have hnew : RowIn w3 wr.heap.size w2.heap.size 3 a (intCells l) := ((RowIn.of_fresh hf).below hal).grown hg (by decide) hty
  constructor
  · intro h hh
    rcases List.mem_append.1 hh with hh | hh
    · exact (hold h hh).mono (Nat.le_refl _) (by omega)
    · simp only [List.mem_singleton] at hh
      subst hh
      exact hnew.mono hN hs3
  · rw [List.pairwise_append]
    refine ⟨hap, List.pairwise_singleton _ _, fun x hx y hy => ?_⟩
    simp only [List.mem_singleton] at hy
    subst hy
    rcases hold x hx with e | ⟨g, o1, all, e, e1, e2, _⟩
    · exact Or.inl (by simpa [intCells] using e)
    · rcases hnew with e' | ⟨g', o', all', e', e1', e2', _⟩
      · exact Or.inr (Or.inl (by simpa [intCells] using e'))
      · right; right
        intro g1 o1 g2 o2 h1 h2
        rw [e] at h1; cases h1
        rw [show (⟨a, c, l⟩ : Hd).a = a from rfl, e'] at h2; cases h2
        omega
theorem grid_done {w : World} {N n : Nat} {hs : List Hd} {v : Value} (hown : w.ownsRow N 32 1 v n (hdCells hs)) (hn : hs.length = n) (hin : ∀ h ∈ hs, RowIn w N w.heap.size 3 h.a (intCells h.l)) (hap : hs.Pairwise Apart) :
    ∃ a c, v = .slice a n c ∧ n ≤ c ∧ c ≤ maxLen ∧ GridIn w N w.heap.size a (hs.map Hd.l) := by
  obtain ⟨a, c, rfl, hc, hf⟩ := own_fresh hown (by rw [hdCells_len]; exact hn)
  refine ⟨a, c, rfl, hc, ?_, ⟨hs, rfl, RowIn.of_fresh hf, hin, hap⟩⟩
  rcases hown.2 with ⟨e, _⟩ | ⟨g, cap, cur, e, _, _, _, hm, _⟩
  · cases e; unfold maxLen; omega
  · cases e; exact hm
/-- The call gives these rows, in memory of its own, and a bool. -/
def GivesRows2 (w : World) (L : List (List Int)) (b : Bool) (e : Ending) (w' : World) : Prop :=
  ∃ a c, e = .returned (.tuple #[.slice a L.length c, .bool b]) ∧ L.length ≤ c ∧ c ≤ maxLen ∧ GridIn w' w.heap.size w'.heap.size a L ∧ Below w.heap.size w w'
theorem GivesRows2.none {w w' : World} {a : Option Addr} {c : Nat} {b : Bool} (hb : Below w.heap.size w w') (hc : c ≤ maxLen) : GivesRows2 w [] b (.returned (.tuple #[.slice a 0 c, .bool b])) w' :=
  ⟨a, c, rfl, Nat.zero_le _, hc, GridIn.nil _ _ _ _, hb⟩
theorem made_rows {N : Nat} {w : World} (h : w.heap.size = N) : (w.alloc (.cells #[] 32)).ownsRow N 32 1 (.slice (some ⟨w.heap.size, 0, none⟩) 0 0) 0 (hdCells []) :=
  World.ownsRow_made (base := N) (e := 32) (size := 1) w #[] 0 (by omega) (by unfold maxLen; omega) (by rfl)

namespace Glue
def pieces (s : ByteArray) : List ByteArray := Split.pieces 32 s
def parsedRows (ps : List ByteArray) : List (List Int) := ps.map fun p => Word.parsed p.data.toList
def ParseOk (s : ByteArray) : Prop := (∀ p ∈ pieces s, Word.Parses p.data.toList) ∧ IsG (parsedRows (pieces s))
instance (s : ByteArray) : Decidable (ParseOk s) := by unfold ParseOk; exact inferInstance
def parsedG (s : ByteArray) : List (List Int) := if ParseOk s then parsedRows (pieces s) else []
theorem parsedG_tot (s : ByteArray) : tot (parsedG s) ≤ 1000000 := by
  unfold parsedG
  split
  · rename_i h
    have h1 := h.2.2.1
    have h2 := h.2.2.2.2.1
    unfold tot; omega
  · simp [tot, sumLen]
theorem parsedRows_len (ps : List ByteArray) : (parsedRows ps).length = ps.length := by simp [parsedRows]
theorem parsedRows_snoc {ps : List ByteArray} {i : Nat} {p : ByteArray} (h : ps[i]? = some p) : parsedRows (ps.take (i + 1)) = parsedRows (ps.take i) ++ [Word.parsed p.data.toList] := by
  obtain ⟨h1, rfl⟩ := List.getElem?_eq_some_iff.1 h
  unfold parsedRows
  rw [List.take_succ_eq_append_getElem h1, List.map_append]; rfl
theorem sumLen_small {L : List (List Int)} (h : ∀ r ∈ L, r.length ≤ 24) : sumLen L ≤ 24 * L.length := by
  induction L with
  | nil => simp [sumLen]
  | cons r t ih =>
    have h1 := h r (List.mem_cons_self ..)
    have h2 := ih (fun x hx => h x (List.mem_cons_of_mem _ hx))
    unfold sumLen at h2 ⊢
    simp only [List.map_cons, List.sum_cons, List.length_cons]
    omega
theorem parsedRows_small (ps : List ByteArray) : ∀ r ∈ parsedRows ps, r.length ≤ 24 := by
  intro r hr
  obtain ⟨p, _, rfl⟩ := List.mem_map.1 hr
  exact Word.parsed_len _
theorem bad_piece {s : ByteArray} {i : Nat} {p : ByteArray} (h : (pieces s)[i]? = some p) (hn : ¬ Word.Parses p.data.toList) : ¬ ParseOk s := fun ho => hn (ho.1 p (get_mem h))
theorem bad_empty {s : ByteArray} {i : Nat} {p : ByteArray} (h : (pieces s)[i]? = some p) (hn : Word.parsed p.data.toList = []) : ¬ ParseOk s := fun ho =>
  (ho.2.2.2.1 _ (List.mem_map.2 ⟨p, get_mem h, rfl⟩)).1 hn
theorem ok_iff {s : ByteArray} (h : ∀ j p, (pieces s)[j]? = some p → j < (pieces s).length → Word.Parses p.data.toList) : ParseOk s ↔ IsG (parsedRows (pieces s)) :=
  ⟨fun h => h.2, fun hg => ⟨fun p hp => by
    obtain ⟨j, hj, rfl⟩ := List.mem_iff_getElem.1 hp
    exact h j _ (List.getElem?_eq_getElem hj) hj, hg⟩⟩
end Glue

set_option maxRecDepth 10000 in
set_option maxHeartbeats 2000000 in
theorem spec_ParseGluing (s : ByteArray) (w : World) (hs : s.size ≤ 1048576) :
    Calls Tryd.prog 9 #[.string s] w fun e w' => GivesRows2 w (Glue.parsedG s) (decide (Glue.ParseOk s)) e w' := by
  have hsp := fun W => spec_SplitByte s 32 W hs
  have hplen : (Split.pieces 32 s).length ≤ s.size + 1 := Split.pieces_length 32 s
  have hpsz := fun q (h : q ∈ Split.pieces 32 s) => Split.pieces_small 32 s q h
  have hbad := fun i p (h : (Split.pieces 32 s)[i]? = some p) => Glue.bad_piece (s := s) (i := i) (p := p) h
  have hbe := fun i p (h : (Split.pieces 32 s)[i]? = some p) => Glue.bad_empty (s := s) (i := i) (p := p) h
  have hok := Glue.ok_iff (s := s)
  have hG : Glue.parsedG s = if Glue.ParseOk s then Glue.parsedRows (Split.pieces 32 s) else [] := rfl
  unfold Glue.pieces at hok
  generalize Glue.parsedG s = G at *
  obtain ⟨ok, hokd⟩ : ∃ ok, decide (Glue.ParseOk s) = ok := ⟨_, rfl⟩
  rw [hokd]
  generalize Split.pieces 32 s = ps at *
  obtain ⟨i0, hi0, hz0, hz1, hz2⟩ := info_ints_parts
  have Hi0 := Lib.hid hi0; have Hz0 := Lib.hid hz0; have Hz1 := Lib.hid hz1; have Hz2 := Lib.hid hz2
  have Hsp := Lib.hid hsp; have Hpsz := Lib.hid hpsz; have Hbad := Lib.hid hbad; have Hbe := Lib.hid hbe; have Hok := Lib.hid hok; have HG := Lib.hid hG; have Hokd := Lib.hid hokd
  clear hsp hpsz hbad hbe hok hG hi0 hz0 hz1 hz2 hokd
  have hmd := made_rows (w := w) rfl
  have hbm := (Below.refl w.heap.size w).alloc (Nat.le_refl _) (.cells #[] 32)
  generalize hN : w.heap.size = N at *
  have HN := Lib.hid hN; have Hmd := Lib.hid hmd; have Hbm := Lib.hid hbm
  clear hmd hbm
  go_enter Tryd.func9, Tryd.ntmps9
  go_wp2_with fail
  refine (Hsp.out _).mono ?_
  rintro e w1 ⟨⟨pv, rfl, hpo⟩, hb1⟩
  have hsz : (w.alloc (.cells #[] 32)).heap.size = N + 1 := by rw [← HN.out]; simp
  rw [hsz] at hpo hb1
  obtain ⟨av, cv, rfl, _, hpf⟩ := own_fresh hpo (by simp [strCells])
  have hmd1 := own_keep Hmd.out hb1 (fun k hk => by have := own_block hk; have := HN.out; omega)
  have hb1' := Hbm.out.trans (hb1.mono (Nat.le_succ N))
  have hM : N ≤ w1.heap.size := by have := hb1'.size; have := HN.out; simp at *; omega
  have Hpr := Lib.hid (RowIn.of_fresh hpf)
  have Hb1 := Lib.hid hb1'; have Hmd1 := Lib.hid hmd1
  clear hpo hpf hb1 hb1' hmd1 hsz
  generalize hB : w1.heap.size = B at *
  have Hpr2 : Hid (RowIn w1 (N + 1) B 9 av (strCells ps)) := Lib.hid Hpr.out
  clear Hpr
  go_wp2
  go_loopw [4, 6, 7, 8] (fun ov iv _ _ wr => ∃ i : Nat, i ≤ ps.length ∧ iv = .int .i64 i ∧ Hid (Below N w wr) ∧ Hid (RowIn wr (N + 1) B 9 av (strCells ps)) ∧ Hid (∀ j p, ps[j]? = some p → j < i → Word.Parses p.data.toList) ∧ Hid (∃ hs : List Hd, hs.map Hd.l = Glue.parsedRows (ps.take i) ∧ wr.ownsRow N 32 1 ov i (hdCells hs) ∧ (∀ h ∈ hs, RowIn wr N wr.heap.size 3 h.a (intCells h.l)) ∧ hs.Pairwise Apart)) (fun _ iv _ _ _ => ps.length - (intOf iv).toNat)
  case atStart => exact ⟨0, by omega, rfl, Hb1, Hpr2, Lib.hid (fun _ _ _ h => by omega), Lib.hid ⟨[], rfl, Hmd1.out, fun _ h => (by cases h), List.Pairwise.nil⟩⟩
  case round =>
    obtain ⟨i, hi, rfl, hb, hpr, hall, hgr⟩ := hrel
    by_cases hlt : i < ps.length
    · obtain ⟨p, hp⟩ := get_some hlt
      have hcell0 := strCells_at hpr.out.row hlt
      have hpi : ps[i] = p := by rw [List.getElem?_eq_getElem hlt] at hp; exact Option.some.inj hp
      rw [hpi] at hcell0
      obtain ⟨b, o, rfl, hbw, hcell⟩ := hcell0
      have hW := spec_ParseWord p wr (Nat.le_trans (Hpsz.out p (get_mem hp)) hs)
      have hsn := Glue.parsedRows_snoc hp
      have hbd := Hbad.out i p hp
      have hbe := Hbe.out i p hp
      have hnx : Word.Parses p.data.toList → ∀ j q, ps[j]? = some q → j < i + 1 → Word.Parses q.data.toList := fun h j q hq hj => by
        rcases Nat.lt_or_ge j i with h2 | h2
        · exact hall.out j q hq h2
        · obtain rfl : j = i := by omega
          rw [hp] at hq; cases hq; exact h
      have hsmall := Word.parsed_len p.data.toList
      generalize Word.parsed p.data.toList = l at *
      have Hsn := Lib.hid hsn; have Hnx := Lib.hid hnx
      have hNw : N ≤ wr.heap.size := by have := hb.out.size; rw [HN.out] at this; exact this
      clear hsn hnx hpi hp hbw
      by_cases hpz : Word.Parses p.data.toList
      · rw [decide_eq_true hpz] at hW
        have HW := Lib.hid hW; have Hpz := Lib.hid hpz
        clear hW hbd hpz
        by_cases hl0 : l.length = 0
        · have hno := hbe (List.eq_nil_of_length_eq_zero hl0)
          have hg0 : G = [] := by rw [HG.out, if_neg hno]
          have hk0 : ok = false := by rw [← Hokd.out]; exact decide_eq_false hno
          have Hno := Lib.hid (And.intro hg0 hk0)
          have hlb : ((l.length : Int) == 0) = true := by rw [hl0]; rfl
          clear hno hg0 hk0 hbe
          go_wp2_with fail
          refine HW.out.mono ?_
          rintro e w2 ⟨a, c, rfl, _, _, _, hb2⟩
          have Hb2 := Lib.hid (hb.out.trans (hb2.mono hNw))
          have hN2 : N ≤ w2.heap.size := by have := Hb2.out.size; rw [HN.out] at this; exact this
          clear hb2
          go_wp2
          go_ret2
          rw [Hno.out.1, Hno.out.2]
          exact GivesRows2.none (by rw [HN.out]; exact Hb2.out.alloc hN2 _) (by unfold maxLen; omega)
        · have hlb : ((l.length : Int) == 0) = false := beq_eq_false_iff_ne.2 (by omega)
          obtain ⟨hs', hh⟩ := hgr.out
          obtain ⟨hh1, hown, hin, hap⟩ := hh
          have Hh1 := Lib.hid hh1; have Hin := Lib.hid hin; have Hap := Lib.hid hap
          clear hbe hgr hh1 hin hap
          go_wp2_with fail
          refine HW.out.mono ?_
          rintro e w2 ⟨a, c, rfl, _, _, hf, hb2⟩
          have hN2 : N ≤ w2.heap.size := Nat.le_trans hNw hb2.size
          have hown2 := own_keep hown hb2 (fun k hk => (hown.lt k hk).2)
          have hbw2 := hb.out.trans (hb2.mono hNw)
          have hpr2 := hpr.out.below hb2
          have hm1 : i + 1 ≤ maxLen := by unfold maxLen; omega
          have hm2 : (i + 1) * 24 ≤ 140737488355328 := by omega
          obtain ⟨ova, ovc, rfl⟩ := own_len hown
          have Hf := Lib.hid hf; have Hb2 := Lib.hid hb2; have Hbw2 := Lib.hid hbw2; have Hpr2 := Lib.hid hpr2; have HNw := Lib.hid hNw
          clear hf hb2 hbw2 hpr2 hown hcell hNw
          go_wp2_with (at_builtin; refine append_one rfl (.tmp 34) (.tmp 36) 24 rfl N 32 i0 _ 24 Tryd.underlying24 Hi0.out Hz0.out Hz1.out Hz2.out (by rfl) _ _ _ rfl hown2 (by rfl) _ rfl hm1 hm2 hN2 ?_; intro v1 w1 hown1 hg1 _)
          go_roundw
          case rel =>
            have hst := grid_step (c := c) Hin.out Hap.out hown2 HNw.out Hf.out Hb2.out hg1
            refine ⟨i + 1, by omega, by go_num, Lib.hid (Below.grown (Hbw2.out.alloc hN2 _) hg1 (by simp; omega) (fun k hk => (hown2.lt k hk).1)), Lib.hid ((Hpr2.out.below ((Below.refl w2.heap.size w2).alloc (Nat.le_refl _) _)).grown hg1 (by decide) (own_type (hown2.alloc _))), Lib.hid (Hnx.out Hpz.out), Lib.hid ⟨hs' ++ [⟨a, c, l⟩], ?_, ?_, hst⟩⟩
            · rw [List.map_append, Hh1.out, Hsn.out]; rfl
            · rw [← hdCells_snoc]; exact hown1
          case measure => simp [intOf]; omega
      · rw [decide_eq_false hpz] at hW
        have HW := Lib.hid hW
        have hno := hbd hpz
        have hg0 : G = [] := by rw [HG.out, if_neg hno]
        have hk0 : ok = false := by rw [← Hokd.out]; exact decide_eq_false hno
        have Hno := Lib.hid (And.intro hg0 hk0)
        clear hno hg0 hk0 hbe hbd hW hpz
        go_wp2_with fail
        refine HW.out.mono ?_
        rintro e w2 ⟨a, c, rfl, _, _, _, hb2⟩
        have Hb2 := Lib.hid (hb.out.trans (hb2.mono hNw))
        have hN2 : N ≤ w2.heap.size := by have := Hb2.out.size; rw [HN.out] at this; exact this
        clear hb2
        go_wp2
        go_ret2
        rw [Hno.out.1, Hno.out.2]
        exact GivesRows2.none (by rw [HN.out]; exact Hb2.out.alloc hN2 _) (by unfold maxLen; omega)
    · obtain rfl : i = ps.length := by omega
      obtain ⟨hs', hh1, hown, hin, hap⟩ := hgr.out
      rw [List.take_of_length_le (Nat.le_refl _)] at hh1
      have hlen' : hs'.length = ps.length := by have := congrArg List.length hh1; rw [List.length_map, Glue.parsedRows_len] at this; exact this
      obtain ⟨ga, gc, rfl, hgc, hgm, hgrid⟩ := grid_done hown hlen' hin hap
      rw [hh1] at hgrid
      have hiff := Hok.out hall.out
      have hsl := Glue.sumLen_small (Glue.parsedRows_small ps)
      have hsm := Glue.parsedRows_small ps
      have hrl := Glue.parsedRows_len ps
      rw [hrl] at hsl
      have hIG := fun W (h : GridAt W ga (Glue.parsedRows ps)) => spec_IsGluing_big ga gc (Glue.parsedRows ps) W h (by omega) (by omega) (fun r hr => Nat.le_trans (hsm r hr) (by decide))
      rw [hrl] at hIG
      have hNw : N ≤ wr.heap.size := by have := hb.out.size; rw [HN.out] at this; exact this
      have Hgrid := Lib.hid hgrid; have HIG := Lib.hid hIG; have Hb := hb; have Hrl := Lib.hid hrl
      clear hh1 hown hin hap hgrid hsl hsm hIG hgr hlen' hrl hb
      by_cases hg : Glue.ParseOk s
      · have hgi := hiff.1 hg
        have hg1 : G = Glue.parsedRows ps := by rw [HG.out, if_pos hg]
        have hk1 : ok = true := by rw [← Hokd.out]; exact decide_eq_true hg
        have hc := HIG.out wr Hgrid.out.grid
        rw [decide_eq_true hgi] at hc
        have Hc := Lib.hid hc; have Hyes := Lib.hid (And.intro hg1 hk1)
        clear hgi hg1 hk1 hc hg hiff
        generalize Glue.parsedRows ps = R at *
        go_wp2_with fail
        refine Hc.out.mono ?_
        rintro e w2 ⟨rfl, hb2⟩
        have Hb2 := Lib.hid hb2
        clear hb2
        go_wp2
        go_ret2
        rw [Hyes.out.1, Hyes.out.2]
        refine ⟨ga, gc, by rw [Hrl.out]; rfl, by rw [Hrl.out]; exact hgc, hgm, ?_, by rw [HN.out]; exact Hb.out.trans (Hb2.out.mono hNw)⟩
        rw [HN.out]
        exact (Hgrid.out.below Hb2.out).mono (Nat.le_refl _) Hb2.out.size
      · have hgi : ¬ Glue.IsG (Glue.parsedRows ps) := fun h => hg (hiff.2 h)
        have hg0 : G = [] := by rw [HG.out, if_neg hg]
        have hk0 : ok = false := by rw [← Hokd.out]; exact decide_eq_false hg
        have hc := HIG.out wr Hgrid.out.grid
        rw [decide_eq_false hgi] at hc
        have Hc := Lib.hid hc; have Hno := Lib.hid (And.intro hg0 hk0)
        clear hgi hg0 hk0 hc hg hiff
        generalize Glue.parsedRows ps = R at *
        go_wp2_with fail
        refine Hc.out.mono ?_
        rintro e w2 ⟨rfl, hb2⟩
        have Hb2 := Lib.hid (Hb.out.trans (hb2.mono hNw))
        have hN2 : N ≤ w2.heap.size := Nat.le_trans hNw hb2.size
        clear hb2
        go_wp2
        go_ret2
        rw [Hno.out.1, Hno.out.2]
        exact GivesRows2.none (by rw [HN.out]; exact Hb2.out.alloc hN2 _) (by unfold maxLen; omega)

set_option maxRecDepth 10000 in
set_option maxHeartbeats 2000000 in
theorem impl_ParseGluing (s : ByteArray) (w : World) (hsh : w.ShapedOpen Tryd.prog) (hs : s.size ≤ 1048576) :
    Calls Tryd.prog 8 #[.string s] w fun e w' => GivesRows2 w (Glue.parsedG s) (decide (Glue.ParseOk s)) e w' := by
  have hsp := impl_SplitByte s 32 w hsh hs
  have hplen : (Split.pieces 32 s).length ≤ s.size + 1 := Split.pieces_length 32 s
  have hpsz := fun q (h : q ∈ Split.pieces 32 s) => Split.pieces_small 32 s q h
  have hbad := fun i p (h : (Split.pieces 32 s)[i]? = some p) => Glue.bad_piece (s := s) (i := i) (p := p) h
  have hbe := fun i p (h : (Split.pieces 32 s)[i]? = some p) => Glue.bad_empty (s := s) (i := i) (p := p) h
  have hok := Glue.ok_iff (s := s)
  have hG : Glue.parsedG s = if Glue.ParseOk s then Glue.parsedRows (Split.pieces 32 s) else [] := rfl
  unfold Glue.pieces at hok
  generalize Glue.parsedG s = G at *
  obtain ⟨ok, hokd⟩ : ∃ ok, decide (Glue.ParseOk s) = ok := ⟨_, rfl⟩
  rw [hokd]
  generalize Split.pieces 32 s = ps at *
  obtain ⟨i0, hi0, hz0, hz1, hz2⟩ := info_ints_parts
  have Hi0 := Lib.hid hi0; have Hz0 := Lib.hid hz0; have Hz1 := Lib.hid hz1; have Hz2 := Lib.hid hz2
  have Hsp := Lib.hid hsp; have Hpsz := Lib.hid hpsz; have Hbad := Lib.hid hbad; have Hbe := Lib.hid hbe; have Hok := Lib.hid hok; have HG := Lib.hid hG; have Hokd := Lib.hid hokd
  clear hsp hpsz hbad hbe hok hG hi0 hz0 hz1 hz2 hokd
  generalize hN : w.heap.size = N at *
  have HN := Lib.hid hN
  go_enter Tryd.func8, Tryd.ntmps8
  go_wp2_with fail
  refine Hsp.out.mono ?_
  rintro e w1 ⟨⟨pg, rfl, hpg, hpb⟩, hb1⟩
  have hpl : (strCells ps).length = ps.length := by simp [strCells]
  rw [hpl]
  have hpb2 : RowIn w1 N w1.heap.size 9 (some ⟨pg, 0, none⟩) (strCells ps) := RowIn.of_blk hpb hpg hpb.lt
  have Hb1 := Lib.hid hb1
  generalize hB : w1.heap.size = B at *
  have Hpr2 : Hid (RowIn w1 N B 9 (some ⟨pg, 0, none⟩) (strCells ps)) := Lib.hid hpb2
  clear hpb2 hpb hpg hb1 hpl
  go_wp2
  go_loopw [4, 6, 7, 8, 12] (fun ov _ _ _ iv wr => ∃ i : Nat, i ≤ ps.length ∧ iv = .int .i64 i ∧ Hid (Below N w wr) ∧ Hid (RowIn wr N B 9 (some ⟨pg, 0, none⟩) (strCells ps)) ∧ Hid (∀ j p, ps[j]? = some p → j < i → Word.Parses p.data.toList) ∧ Hid (∃ hs : List Hd, hs.map Hd.l = Glue.parsedRows (ps.take i) ∧ wr.ownsRow N 32 1 ov i (hdCells hs) ∧ (∀ h ∈ hs, RowIn wr N wr.heap.size 3 h.a (intCells h.l)) ∧ hs.Pairwise Apart)) (fun _ _ _ _ iv _ => ps.length - (intOf iv).toNat)
  case atStart => exact ⟨0, by omega, rfl, Hb1, Hpr2, Lib.hid (fun _ _ _ h => by omega), Lib.hid ⟨[], rfl, World.ownsRow_nil _ _ _ _, fun _ h => (by cases h), List.Pairwise.nil⟩⟩
  case round =>
    obtain ⟨i, hi, rfl, hb, hpr, hall, hgr⟩ := hrel
    by_cases hlt : i < ps.length
    · obtain ⟨p, hp⟩ := get_some hlt
      have hcell0 := strCells_at hpr.out.row hlt
      have hpi : ps[i] = p := by rw [List.getElem?_eq_getElem hlt] at hp; exact Option.some.inj hp
      rw [hpi] at hcell0
      obtain ⟨b, o, e0, hbw, hcell⟩ := hcell0
      cases e0
      rw [Nat.zero_add] at hcell
      have hW := impl_ParseWord p wr (Nat.le_trans (Hpsz.out p (get_mem hp)) hs)
      have hsn := Glue.parsedRows_snoc hp
      have hbd := Hbad.out i p hp
      have hbe := Hbe.out i p hp
      have hnx : Word.Parses p.data.toList → ∀ j q, ps[j]? = some q → j < i + 1 → Word.Parses q.data.toList := fun h j q hq hj => by
        rcases Nat.lt_or_ge j i with h2 | h2
        · exact hall.out j q hq h2
        · obtain rfl : j = i := by omega
          rw [hp] at hq; cases hq; exact h
      have hsmall := Word.parsed_len p.data.toList
      generalize Word.parsed p.data.toList = l at *
      have Hsn := Lib.hid hsn; have Hnx := Lib.hid hnx
      have hNw : N ≤ wr.heap.size := by have := hb.out.size; rw [HN.out] at this; exact this
      clear hsn hnx hpi hp hbw
      by_cases hpz : Word.Parses p.data.toList
      · rw [decide_eq_true hpz] at hW
        have HW := Lib.hid hW; have Hpz := Lib.hid hpz
        clear hW hbd hpz
        skip
        obtain ⟨hs', hh⟩ := hgr.out
        obtain ⟨hh1, hown, hin, hap⟩ := hh
        have Hh1 := Lib.hid hh1; have Hin := Lib.hid hin; have Hap := Lib.hid hap
        clear hbe hgr hh1 hin hap
        go_wp2_with fail
        refine HW.out.mono ?_
        rintro e w2 ⟨a, c, rfl, _, _, hf, hb2⟩
        have hN2 : N ≤ w2.heap.size := Nat.le_trans hNw hb2.size
        have hown2 := own_keep hown hb2 (fun k hk => (hown.lt k hk).2)
        have hbw2 := hb.out.trans (hb2.mono hNw)
        have hpr2 := hpr.out.below hb2
        have hm1 : i + 1 ≤ maxLen := by unfold maxLen; omega
        have hm2 : (i + 1) * 24 ≤ 140737488355328 := by omega
        obtain ⟨ova, ovc, rfl⟩ := own_len hown
        have Hf := Lib.hid hf; have Hb2 := Lib.hid hb2; have Hbw2 := Lib.hid hbw2; have Hpr2 := Lib.hid hpr2; have HNw := Lib.hid hNw
        clear hf hb2 hbw2 hpr2 hown hcell hNw
        go_wp2_with (at_builtin; refine append_one rfl (.tmp 23) (.tmp 25) 24 rfl N 32 i0 _ 24 Tryd.underlying24 Hi0.out Hz0.out Hz1.out Hz2.out (by rfl) _ _ _ rfl hown2 (by rfl) _ rfl hm1 hm2 hN2 ?_; intro v1 w1 hown1 hg1 _)
        go_roundw
        case rel =>
          have hst := grid_step (c := c) Hin.out Hap.out hown2 HNw.out Hf.out Hb2.out hg1
          refine ⟨i + 1, by omega, by go_num, Lib.hid (Below.grown (Hbw2.out.alloc hN2 _) hg1 (by simp; omega) (fun k hk => (hown2.lt k hk).1)), Lib.hid ((Hpr2.out.below ((Below.refl w2.heap.size w2).alloc (Nat.le_refl _) _)).grown hg1 (by decide) (own_type (hown2.alloc _))), Lib.hid (Hnx.out Hpz.out), Lib.hid ⟨hs' ++ [⟨a, c, l⟩], ?_, ?_, hst⟩⟩
          · rw [List.map_append, Hh1.out, Hsn.out]; rfl
          · rw [← hdCells_snoc]; exact hown1
        case measure => simp [intOf]; omega
      · rw [decide_eq_false hpz] at hW
        have HW := Lib.hid hW
        have hno := hbd hpz
        have hg0 : G = [] := by rw [HG.out, if_neg hno]
        have hk0 : ok = false := by rw [← Hokd.out]; exact decide_eq_false hno
        have Hno := Lib.hid (And.intro hg0 hk0)
        clear hno hg0 hk0 hbe hbd hW hpz
        go_wp2_with fail
        refine HW.out.mono ?_
        rintro e w2 ⟨a, c, rfl, _, _, _, hb2⟩
        have Hb2 := Lib.hid (hb.out.trans (hb2.mono hNw))
        have hN2 : N ≤ w2.heap.size := by have := Hb2.out.size; rw [HN.out] at this; exact this
        clear hb2
        go_wp2
        go_ret2
        rw [Hno.out.1, Hno.out.2]
        exact GivesRows2.none (by rw [HN.out]; exact Hb2.out) (by unfold maxLen; omega)
    · obtain rfl : i = ps.length := by omega
      obtain ⟨hs', hh1, hown, hin, hap⟩ := hgr.out
      rw [List.take_of_length_le (Nat.le_refl _)] at hh1
      have hlen' : hs'.length = ps.length := by have := congrArg List.length hh1; rw [List.length_map, Glue.parsedRows_len] at this; exact this
      obtain ⟨ga, gc, rfl, hgc, hgm, hgrid⟩ := grid_done hown hlen' hin hap
      rw [hh1] at hgrid
      have hiff := Hok.out hall.out
      have hsl := Glue.sumLen_small (Glue.parsedRows_small ps)
      have hsm := Glue.parsedRows_small ps
      have hrl := Glue.parsedRows_len ps
      rw [hrl] at hsl
      have hIG := fun W (h : GridAt W ga (Glue.parsedRows ps)) => impl_IsGluing_big ga gc (Glue.parsedRows ps) W h (by omega) (by omega) (fun r hr => Nat.le_trans (hsm r hr) (by decide))
      rw [hrl] at hIG
      have hNw : N ≤ wr.heap.size := by have := hb.out.size; rw [HN.out] at this; exact this
      have Hgrid := Lib.hid hgrid; have HIG := Lib.hid hIG; have Hb := hb; have Hrl := Lib.hid hrl
      clear hh1 hown hin hap hgrid hsl hsm hIG hgr hlen' hrl hb
      by_cases hg : Glue.ParseOk s
      · have hgi := hiff.1 hg
        have hg1 : G = Glue.parsedRows ps := by rw [HG.out, if_pos hg]
        have hk1 : ok = true := by rw [← Hokd.out]; exact decide_eq_true hg
        have hc := HIG.out wr Hgrid.out.grid
        rw [decide_eq_true hgi] at hc
        have Hc := Lib.hid hc; have Hyes := Lib.hid (And.intro hg1 hk1)
        clear hgi hg1 hk1 hc hg hiff
        generalize Glue.parsedRows ps = R at *
        go_wp2_with fail
        refine Hc.out.mono ?_
        rintro e w2 ⟨rfl, hb2⟩
        have Hb2 := Lib.hid hb2
        clear hb2
        go_wp2
        go_ret2
        rw [Hyes.out.1, Hyes.out.2]
        refine ⟨ga, gc, by rw [Hrl.out]; rfl, by rw [Hrl.out]; exact hgc, hgm, ?_, by rw [HN.out]; exact Hb.out.trans (Hb2.out.mono hNw)⟩
        rw [HN.out]
        exact (Hgrid.out.below Hb2.out).mono (Nat.le_refl _) Hb2.out.size
      · have hgi : ¬ Glue.IsG (Glue.parsedRows ps) := fun h => hg (hiff.2 h)
        have hg0 : G = [] := by rw [HG.out, if_neg hg]
        have hk0 : ok = false := by rw [← Hokd.out]; exact decide_eq_false hg
        have hc := HIG.out wr Hgrid.out.grid
        rw [decide_eq_false hgi] at hc
        have Hc := Lib.hid hc; have Hno := Lib.hid (And.intro hg0 hk0)
        clear hgi hg0 hk0 hc hg hiff
        generalize Glue.parsedRows ps = R at *
        go_wp2_with fail
        refine Hc.out.mono ?_
        rintro e w2 ⟨rfl, hb2⟩
        have Hb2 := Lib.hid (Hb.out.trans (hb2.mono hNw))
        have hN2 : N ≤ w2.heap.size := Nat.le_trans hNw hb2.size
        clear hb2
        go_wp2
        go_ret2
        rw [Hno.out.1, Hno.out.2]
        exact GivesRows2.none (by rw [HN.out]; exact Hb2.out) (by unfold maxLen; omega)
end Go.Proofs.YtfhecfggfccajaaDoor
