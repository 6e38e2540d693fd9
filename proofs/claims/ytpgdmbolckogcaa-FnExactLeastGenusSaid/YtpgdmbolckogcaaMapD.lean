/-
  The walks of the cycles of a map, the program's and the model's.
-/
import Derived.Test.YtpgdmbolckogcaaBase
import Derived.Test.YtpgdmbolckogcaaSlice
import Derived.Test.YtpgdmbolckogcaaInts
import Derived.Test.YtpgdmbolckogcaaGrid
import Derived.Test.YtpgdmbolckogcaaGridWalk
import Derived.Test.YtpgdmbolckogcaaGridRows
import Derived.Test.YtpgdmbolckogcaaOwn
import Derived.Test.YtpgdmbolckogcaaAppend
import Derived.Test.YtpgdmbolckogcaaClass
import Derived.Test.YtpgdmbolckogcaaLab
import Derived.Test.YtpgdmbolckogcaaMap
import Derived.Test.YtpgdmbolckogcaaMapA
import Derived.Test.YtpgdmbolckogcaaMapB
import Derived.Test.YtpgdmbolckogcaaMapC
import Derived.Deep.QuietTactic
import Derived.BigQuiet
namespace Go.Proofs.Ytpgdmbolckogcaa
open Go.RowKit

/-- The call gives these rows, in memory of its own. -/
def GivesRows (w : World) (L : List (List Int)) (e : Ending) (w' : World) : Prop :=
  ∃ a c, e = .returned (.slice a L.length c) ∧ L.length ≤ c ∧ c ≤ maxLen ∧ GridIn w' w.heap.size w'.heap.size a L ∧ Below w.heap.size w w'
theorem GivesRows.none {w w' : World} {a : Option Addr} (hb : Below w.heap.size w w') : GivesRows w [] (.returned (.slice a 0 0)) w' := ⟨_, _, rfl, Nat.le_refl _, Nat.zero_le _, GridIn.nil _ _ _ _, hb⟩
theorem GivesRows.later {w w0 w' : World} {L : List (List Int)} {e : Ending} (h : GivesRows w0 L e w') (hb : Below w.heap.size w w0) : GivesRows w L e w' := by
  obtain ⟨a, c, rfl, h1, h2, h3, h4⟩ := h
  exact ⟨a, c, rfl, h1, h2, h3.mono hb.size (Nat.le_refl _), hb.trans (h4.mono hb.size)⟩
theorem Only.next {lo hi : Nat} {w w' w'' : World} (h : Only lo hi w w') (hb : Below w.heap.size w' w'') : Only lo hi w w'' :=
  ⟨hb.os.trans h.1, hb.tape.trans h.2.1, hb.output.trans h.2.2.1, Nat.le_trans h.size hb.size, fun k hk ho => (hb.block k hk).trans (h.2.2.2.2 k hk ho)⟩
theorem Only.set {G i : Nat} {w w' : World} {v : Value} (h : Only G (G + 1) w w') : Only G (G + 1) w (w'.setCell ⟨G, i, none⟩ v) :=
  ⟨h.1, h.2.1, h.2.2.1, by simpa [World.setCell] using h.size, fun k hk ho => (Below.heap_setCell w' ⟨G, i, none⟩ v k (by show k ≠ G; omega)).trans (h.2.2.2.2 k hk ho)⟩
theorem Only.belowFlg {G N : Nat} {w0 w w' : World} (h : Only G (G + 1) w w') (hb : Below N w0 w) (hG : N ≤ G) (hN : N ≤ w.heap.size) : Below N w0 w' :=
  hb.trans (h.below hG hN)
/-- What lies in other blocks than the flags. -/
theorem RowIn.noFlg {w w' : World} {lo hi G n : Nat} {t : TypeId} {a : Option Addr} {cs : List Value} {s : Nat → Bool} (h : RowIn w lo hi t a cs) (ho : Only G (G + 1) w w') (hf : Flg w G s n) (ht : t ≠ 4) : RowIn w' lo hi t a cs := by
  rcases h with h | ⟨g, o, all, rfl, h3, h4, hk, hc⟩
  · exact Or.inl h
  · refine Or.inr ⟨g, o, all, rfl, h3, h4, ho.block hk ?_, hc⟩
    obtain ⟨all', hk', _⟩ := hf
    have : g ≠ G := by
      rintro rfl
      unfold Blk at hk hk'
      rw [hk] at hk'
      injection hk' with hk'; injection hk' with _ e _
      exact ht e
    omega
theorem own_noFlg {w w' : World} {base n G m : Nat} {e : TypeId} {v : Value} {xs : List Value} {s : Nat → Bool} (h : w.ownsRow base e 1 v n xs) (ho : Only G (G + 1) w w') (hf : Flg w G s m) (ht : e ≠ 4) : w'.ownsRow base e 1 v n xs := by
  obtain ⟨hx, h0 | ⟨g, cap, cur, rfl, hg, hh, h2⟩⟩ := h
  · exact ⟨hx, Or.inl h0⟩
  · refine ⟨hx, Or.inr ⟨g, cap, cur, rfl, hg, ?_, h2⟩⟩
    have hlt : g < w.heap.size := Blk.lt hh
    obtain ⟨all', hk', _⟩ := hf
    have : g ≠ G := by
      rintro rfl
      unfold Blk at hk'
      rw [hh] at hk'
      injection hk' with hk'; injection hk' with _ e' _
      exact ht e'
    rw [ho.2.2.2.2 g hlt (by omega)]; exact hh
theorem Flg.offRow {w w' : World} {G m n base : Nat} {s : Nat → Bool} {e : TypeId} {v : Value} {xs : List Value} {o : Obj} (h : Flg w G s m) (ho : w.ownsRow base e 1 v n xs) (ht : e ≠ 4) (hg : (w.alloc o).grownBy w' v.ownBlock) : Flg w' G s m := by
  refine (h.alloc o).grown hg (fun e' => ?_)
  obtain ⟨cur, hcur⟩ := own_type (ho.alloc o) _ e'.symm
  obtain ⟨all, hall, _⟩ := h.alloc o
  unfold Blk at hall
  rw [hall] at hcur
  injection hcur with hcur; injection hcur with _ e2 _
  exact ht e2.symm
/-- One row more, behind rows that lie below M. -/
theorem grid_more {N M i c : Nat} {hs : List Hd} {w2 w3 : World} {ov : Value} {a : Option Addr} {l : List Int} {o : Obj} (hin : ∀ h ∈ hs, RowIn w2 N M 3 h.a (intCells h.l)) (hap : Apts hs)
    (hown : w2.ownsRow N 27 1 ov i (hdCells hs)) (hN : N ≤ M) (hM : M ≤ w2.heap.size) (hf : Fresh w2 M 3 a (intCells l)) (hg : (w2.alloc o).grownBy w3 ov.ownBlock) (hlc : l.length ≤ c) :
    (∀ h ∈ hs ++ [(⟨a, c, l⟩ : Hd)], RowIn w3 N w3.heap.size 3 h.a (intCells h.l)) ∧ Apts (hs ++ [(⟨a, c, l⟩ : Hd)]) := by
  have hal : Below w2.heap.size w2 (w2.alloc o) := (Below.refl w2.heap.size w2).alloc (Nat.le_refl _) o
  have hty := own_type (hown.alloc o)
  have hs3 : w2.heap.size ≤ w3.heap.size := Nat.le_trans hal.size hg.size
  have hold : ∀ h ∈ hs, RowIn w3 N M 3 h.a (intCells h.l) := fun h hh => ((hin h hh).below hal).grownOf hg (by decide) hty
  have hnew : RowIn w3 M w2.heap.size 3 a (intCells l) := ((RowIn.of_fresh hf).below hal).grownOf hg (by decide) hty
  constructor
  · intro h hh
    rcases List.mem_append.1 hh with hh | hh
    · exact (hold h hh).mono (Nat.le_refl _) (by omega)
    · simp only [List.mem_singleton] at hh
      subst hh
      exact hnew.mono hN hs3
  · refine hap.snoc (fun x hx => ?_) hlc
    rcases hold x hx with e | ⟨g, o1, all, e, e1, e2, _⟩
    · exact Or.inl (by simpa [intCells] using e)
    · rcases hnew with e' | ⟨g', o', all', e', e1', e2', _⟩
      · exact Or.inr (Or.inl (by simpa [intCells] using e'))
      · right; right
        intro g1 o1 g2 o2 h1 h2
        rw [e] at h1; cases h1
        rw [show (⟨a, c, l⟩ : Hd).a = a from rfl, e'] at h2; cases h2
        omega
/-- append of one element, where the size of memory is shown by another term. -/
theorem append_one_at {P : Program} {ops : Array Oper} {rest : List Oper} {o : Oper} {a : Act} {Q : Exit → Act → World → Prop} {W : World} {u : Value} {te : TypeId} (N0 : Nat) (h0 : W.heap.size = N0) (hgd : o.guard = none) (s x : Operand) (t : TypeId)
    (ho : o.op = .call { callee := .builtin .append, args := #[s, x], argTypes := #[t, t] })
    (base : Nat) (e : TypeId) (i : TypeInfo) (z : Value) (bytes : Nat) (ht : P.underlying t = some (.slice e)) (hi : P.info? e = some i) (hz : i.zero = some z)
    (hsize : i.size = 1) (hby : i.bytes = bytes) (hzs : z.cells.size = 1)
    (v : Value) (n : Nat) (xs : List Value) (hs : a.eval s = v) (hown : W.ownsRow base e 1 v n xs)
    (hu : u.oneCell' = true) (c : Nat) (hx : a.eval x = .slice (some ⟨N0, 0, none⟩) 1 c)
    (h63 : n + 1 ≤ maxLen) (hbytes : (n + 1) * bytes ≤ 140737488355328) (hbase : base ≤ W.heap.size)
    (h : ∀ v' w', w'.ownsRow base e 1 v' (n + 1) (xs ++ [u]) → (W.alloc (.cells #[u] te)).grownBy w' v.ownBlock → v' ≠ .slice none 0 0 → wpList P ops Q rest (a.put o.dst v') w') :
    wpList P ops Q (o :: rest) a (W.alloc (.cells #[u] te)) := by
  subst h0
  exact append_one hgd s x t ho base e i z bytes ht hi hz hsize hby hzs v n xs hs hown hu c hx h63 hbytes hbase h
def vLen : Value → Nat
  | .slice _ n _ => n
  | _ => 0

namespace Mp
theorem natRows_len (C : List (List Nat)) : (natRows C).length = C.length := by simp [natRows]
theorem natRows_snoc (C : List (List Nat)) (c : List Nat) : natRows (C ++ [c]) = natRows C ++ [intsOf c] := by simp [natRows, intsOf]
theorem cycTo_skip {f : Nat → Nat} {n i : Nat} (h : (cycTo f n i).1 i = true) : cycTo f n (i + 1) = cycTo f n i := by
  rw [cycTo_succ]; unfold cycStep
  rw [if_pos (show cyc f (n + 1) (cycTo f n i).1 i = [] by unfold cyc; rw [h]; rfl)]
theorem cycTo_take {f : Nat → Nat} {n i : Nat} {c : List Nat} (h : (cycTo f n i).1 i = false) (hc : cyc f (n + 1) (cycTo f n i).1 i = c) : cycTo f n (i + 1) = (seen (cycTo f n i).1 c, (cycTo f n i).2 ++ [c]) ∧ c ≠ [] := by
  have hne : cyc f (n + 1) (cycTo f n i).1 i ≠ [] := by unfold cyc; rw [h]; simp
  rw [cycTo_succ]; unfold cycStep
  rw [if_neg hne, hc]
  exact ⟨rfl, by rw [← hc]; exact hne⟩
theorem cycTo_skip2 {f : Nat → Nat} {n i : Nat} (h : cyc f (n + 1) (cycTo f n i).1 i = []) : cycTo f n (i + 1) = cycTo f n i := by
  rw [cycTo_succ]; unfold cycStep; rw [if_pos h]
theorem cycTo_take2 {f : Nat → Nat} {n i : Nat} {c : List Nat} (hc : cyc f (n + 1) (cycTo f n i).1 i = c) (h : c ≠ []) : cycTo f n (i + 1) = (seen (cycTo f n i).1 c, (cycTo f n i).2 ++ [c]) := by
  rw [cycTo_succ]; unfold cycStep
  rw [if_neg (by rw [hc]; exact h), hc]
theorem cycTo_len (f : Nat → Nat) (n : Nat) : ∀ i, (cycTo f n i).2.length ≤ i
  | 0 => by rw [cycTo_zero]; exact Nat.le_refl _
  | i + 1 => by
    have := cycTo_len f n i
    rw [cycTo_succ]; unfold cycStep
    split
    · omega
    · simp; omega
theorem seen_put (s : Nat → Bool) (c : List Nat) (d k : Nat) : (if k = d then true else seen s c k) = seen s (c ++ [d]) k := by
  rw [seen_snoc]
  by_cases e : k = d
  · simp [e]
  · simp [e]
end Mp

/-- What the outer loop holds: the flags, and the rows. -/
def CycAt (N G : Nat) (wr : World) (f : Nat → Nat) (n i : Nat) (ov : Value) : Prop :=
  Flg wr G (Mp.cycTo f n i).1 n ∧ ∃ hs : List Hd, hs.map Hd.l = Mp.natRows (Mp.cycTo f n i).2 ∧ wr.ownsRow N 27 1 ov (Mp.cycTo f n i).2.length (hdCells hs) ∧ (∀ h ∈ hs, RowIn wr N wr.heap.size 3 h.a (intCells h.l)) ∧ Apts hs

set_option maxRecDepth 10000 in
set_option maxHeartbeats 4000000 in
theorem spec_l6Cycles (a : Option Addr) (c : Nat) (l : List Int) (w : World) (ha : RowAt w a (intCells l)) (hM : Mp.IsM l) :
    Calls Try.prog 68 #[.slice a l.length c] w fun e w' => GivesRows w (Mp.cycles l) e w' := by
  obtain ⟨i0, hi0, hz0, hz1, hz2⟩ := info_int_parts
  obtain ⟨j0, hj0, hy0, hy1, hy2⟩ := info_ints_parts
  have hn : l.length ≤ 24 := hM.2.1
  have hP := hM.2.2.2
  have hmk := mk_unseen l.length (by omega)
  have hfin : Mp.cycles l = Mp.natRows (Mp.cycTo (Mp.at_ l) l.length l.length).2 := rfl
  have hflt := fun d (hd : d < l.length) => Mp.at_lt hP hd
  have hread : ∀ d, d < l.length → ∃ b o, a = some ⟨b, o, none⟩ ∧ ∀ W, Below w.heap.size w W → W.cell? ⟨b, o + d, none⟩ = some (.int .i64 ((Mp.at_ l d : Nat) : Int)) := fun d hd => by
    obtain ⟨b, o, e, hb, hc⟩ := intCells_get? ha (Mp.at_get hP hd)
    exact ⟨b, o, e, fun W hW => by rw [hW.cell (p := ⟨b, o + d, none⟩) hb]; exact hc⟩
  have hst : CycAt w.heap.size (w.heap.size + 1) ((w.alloc (.cells #[] 27)).alloc (.cells (unseen l.length) 4)) (Mp.at_ l) l.length 0 (.slice (some ⟨w.heap.size, 0, none⟩) 0 0) := by
    refine ⟨?_, [], rfl, (made_rows (w := w) rfl).alloc _, fun _ h => (by cases h), Apts.nil⟩
    have := Flg.start (w.alloc (.cells #[] 27)) l.length
    rw [Mp.cycTo_zero]
    simpa using this
  have hb0 : Below w.heap.size w ((w.alloc (.cells #[] 27)).alloc (.cells (unseen l.length) 4)) := ((Below.refl _ _).alloc (Nat.le_refl _) _).alloc (by simp) _
  generalize Mp.cycles l = R at *
  generalize hF : Mp.at_ l = f at *
  generalize hN : w.heap.size = N at *
  have HN := Lib.hid hN
  have Hi0 := Lib.hid hi0; have Hz0 := Lib.hid hz0; have Hz1 := Lib.hid hz1; have Hz2 := Lib.hid hz2
  have Hj0 := Lib.hid hj0; have Hy0 := Lib.hid hy0; have Hy1 := Lib.hid hy1; have Hy2 := Lib.hid hy2
  have Hst := Lib.hid hst; have Hb0 := Lib.hid hb0; have Hfin := Lib.hid hfin; have Hread := Lib.hid hread; have Hflt := Lib.hid hflt
  clear hi0 hz0 hz1 hz2 hj0 hy0 hy1 hy2 hst hb0 hfin hM hP ha hread hflt hF
  go_enter Try.func68, Try.ntmps68
  go_wp2
  go_loopw [3, 5, 6, 7] (fun ov iv _ _ wr => ∃ i : Nat, i ≤ l.length ∧ iv = .int .i64 i ∧ Hid (Below N w wr) ∧ Hid (CycAt N (N + 1) wr f l.length i ov)) (fun _ iv _ _ _ => l.length - (intOf iv).toNat)
  case atStart => exact ⟨0, by omega, rfl, Hb0, Hst⟩
  case round =>
    obtain ⟨i, hi, rfl, hb, hk⟩ := hrel
    by_cases hlt : i < l.length
    · have hseen := hk.out.1.cell hlt
      have hNle : N ≤ wr.heap.size := by have := hb.out.size; rw [HN.out] at this; exact this
      by_cases hs : (Mp.cycTo f l.length i).1 i = true
      · rw [hs] at hseen
        have hsk := Mp.cycTo_skip hs
        have Hsk : Hid (CycAt N (N + 1) wr f l.length (i + 1) _) := Lib.hid (by unfold CycAt; rw [hsk]; exact hk.out)
        clear hs hsk
        go_wp2
        go_roundw
        case rel => exact ⟨i + 1, by omega, by go_num, hb, Hsk⟩
        case measure => simp [intOf]; omega
      · have hs : (Mp.cycTo f l.length i).1 i = false := by simpa using hs
        rw [hs] at hseen
        have htk := fun c (h : Mp.cyc f (l.length + 1) (Mp.cycTo f l.length i).1 i = c) => Mp.cycTo_take hs h
        have hlen := Mp.cycTo_len f l.length i
        have hkk := hk.out
        unfold CycAt at hkk
        have Hnx : Hid (∀ W v, (∃ c, Mp.cyc f (l.length + 1) (Mp.cycTo f l.length i).1 i = c ∧ Flg W (N + 1) (Mp.seen (Mp.cycTo f l.length i).1 c) l.length ∧ ∃ hs : List Hd, hs.map Hd.l = Mp.natRows ((Mp.cycTo f l.length i).2 ++ [c]) ∧ W.ownsRow N 27 1 v ((Mp.cycTo f l.length i).2.length + 1) (hdCells hs) ∧ (∀ h ∈ hs, RowIn W N W.heap.size 3 h.a (intCells h.l)) ∧ Apts hs) → CycAt N (N + 1) W f l.length (i + 1) v) := Lib.hid (by
          rintro W v ⟨c, hc, h1, hs', h2, h3, h4⟩
          unfold CycAt
          rw [(htk c hc).1]
          exact ⟨h1, hs', h2, by rw [List.length_append]; exact h3, h4⟩)
        clear htk hk hs
        generalize (Mp.cycTo f l.length i).1 = s at *
        generalize (Mp.cycTo f l.length i).2 = C at *
        obtain ⟨hflg, hs', hh1, hown, hin, hap⟩ := hkk
        obtain ⟨ova, ovc, rfl⟩ := own_len hown
        have hG : N + 1 < wr.heap.size := hflg.lt
        have hM2 : Hid ((wr.alloc (.cells #[] 3)).ownsRow wr.heap.size 3 1 (.slice (some ⟨wr.heap.size, 0, none⟩) 0 0) 0 (intCells [])) := Lib.hid (own_made rfl)
        have Hal : Hid (Only (N + 1) (N + 1 + 1) wr (wr.alloc (.cells #[] 3))) := Lib.hid (Only.of_below ((Below.refl _ _).alloc (Nat.le_refl _) _) _ _)
        have Hfa : Hid (Flg (wr.alloc (.cells #[] 3)) (N + 1) s l.length) := Lib.hid (hflg.alloc _)
        have Hflg := Lib.hid hflg; have Hh1 := Lib.hid hh1; have Hown := Lib.hid hown; have Hin := Lib.hid hin; have Hap := Lib.hid hap; have Hlen := Lib.hid hlen
        clear hflg hh1 hown hin hap hlen
        obtain ⟨wo, rfl⟩ : ∃ wo, wo = wr := ⟨_, rfl⟩
        go_wp2
        go_loopw [6, 7] (fun cv dv wr => ∃ (cc : List Nat) (d : Nat), dv = .int .i64 d ∧ Hid (Mp.Mid f l.length s i cc d) ∧ Hid (Only (N + 1) (N + 1 + 1) wo wr) ∧ Hid (Flg wr (N + 1) (Mp.seen s cc) l.length) ∧ Hid (wr.ownsRow wo.heap.size 3 1 cv cc.length (intCells (intsOf cc)))) (fun cv _ _ => l.length + 1 - vLen cv)
        case atStart => exact ⟨[], i, rfl, Lib.hid (Mp.Mid.start f s hlt), Hal, Lib.hid (by rw [Mp.seen_nil]; exact Hfa.out), hM2⟩
        case round =>
          obtain ⟨cc, d, rfl, hmid, honly, hfl, hcw⟩ := hrel
          have hd : d < l.length := hmid.out.dlt
          have hcell := hfl.out.cell hd
          have hfz := hfl.out.frozen d
          obtain ⟨ca, ccap, rfl⟩ := own_len hcw.out
          by_cases hsn : Mp.seen s cc d = true
          · rw [hsn] at hcell
            have hcyc := hmid.out.stop hsn
            have hcl := hmid.out.len
            obtain ⟨xa, xc, e, hlc, hfr⟩ := own_fresh hcw.out (by rw [intCells_len, intsOf_len])
            cases e
            have hown2 := own_noFlg Hown.out honly.out Hflg.out (by decide)
            have hin2 := fun h hh => (Hin.out h hh).noFlg honly.out Hflg.out (by decide)
            have hMle := honly.out.size
            have hbB := honly.out.belowFlg hb.out (Nat.le_succ N) hNle
            have hm1 : C.length + 1 ≤ maxLen := by have := Hlen.out; unfold maxLen; omega
            have hm2 : (C.length + 1) * 24 ≤ 140737488355328 := by have := Hlen.out; omega
            have hN2 : N ≤ wr.heap.size := by omega
            have Hcyc := Lib.hid hcyc; have Hfr := Lib.hid hfr; have Hin2 := Lib.hid hin2; have HbB := Lib.hid hbB; have Hlc := Lib.hid hlc
            clear hcyc hfr hin2 hbB hsn hlc
            go_wp2_with (at_builtin; refine append_one rfl (.tmp 40) (.tmp 42) 22 rfl N 27 j0 _ 24 Try.underlying22 Hj0.out Hy0.out Hy1.out Hy2.out (by rfl) _ _ _ rfl hown2 (by rfl) _ rfl hm1 hm2 hN2 ?_; intro v1 w1 hown1 hg1 _)
            go_roundw
            case rel =>
              have hst := grid_more (c := ccap) Hin2.out Hap.out hown2 hNle hMle Hfr.out hg1 (by rw [intsOf_len]; exact Hlc.out)
              refine ⟨i + 1, by omega, by go_num, Lib.hid (Below.grown (HbB.out.alloc hN2 _) hg1 (by simp; omega) (fun k hk => (hown2.lt k hk).1)), Lib.hid (Hnx.out _ _ ⟨cc, Hcyc.out, ?_, hs' ++ [⟨ca, ccap, intsOf cc⟩], ?_, ?_, hst⟩)⟩
              · exact hfl.out.offRow hown2 (by decide) hg1
              · rw [List.map_append, Hh1.out, Mp.natRows_snoc]; rfl
              · rw [← hdCells_snoc]; unfold Hd.val; rw [intsOf_len]; exact hown1
            case measure => simp [intOf]; omega
          · have hsn : Mp.seen s cc d = false := by simpa using hsn
            rw [hsn] at hcell
            have hstep := hmid.out.step hsn (Hflt.out d hd)
            have hput := (hfl.out.put true hd).congr fun k _ => Mp.seen_put s cc d k
            have ho2 := honly.out.set (i := d) (v := .bool true)
            have hcl := hmid.out.len
            have hMle := honly.out.size
            have hcw2 : (wr.setCell ⟨N + 1, d, none⟩ (.bool true)).ownsRow wo.heap.size 3 1 (.slice ca cc.length ccap) cc.length (intCells (intsOf cc)) :=
              own_grown hcw.out (g := N + 1) (only_setCell (World.grownBy.refl _ _) (Or.inl rfl) _) (fun k hk => by have := (hcw.out.lt k hk).1; omega)
            have hsz : (wr.setCell ⟨N + 1, d, none⟩ (.bool true)).heap.size = wr.heap.size := by simp [World.setCell]
            have hbs : wo.heap.size ≤ (wr.setCell ⟨N + 1, d, none⟩ (.bool true)).heap.size := by rw [hsz]; exact hMle
            have hm1 : cc.length + 1 ≤ maxLen := by unfold maxLen; omega
            have hm2 : (cc.length + 1) * 8 ≤ 140737488355328 := by omega
            obtain ⟨b, o, rfl, hrd⟩ := Hread.out d hd
            have Hrd := Lib.hid hrd; have Hstep := Lib.hid hstep; have Hput := Lib.hid hput; have Ho2 := Lib.hid ho2
            have hnext : ∀ (v1 : Value) (w3 : World), ((wr.setCell ⟨N + 1, d, none⟩ (.bool true)).alloc (.cells #[.int .i64 (d : Int)] 3)).grownBy w3 (Value.slice ca cc.length ccap).ownBlock → Only (N + 1) (N + 1 + 1) wo w3 := fun v1 w3 hg => by
              refine Ho2.out.next ?_
              have h1 : Below wo.heap.size (wr.setCell ⟨N + 1, d, none⟩ (.bool true)) ((wr.setCell ⟨N + 1, d, none⟩ (.bool true)).alloc (.cells #[.int .i64 (d : Int)] 3)) := (Below.refl _ _).alloc hbs _
              exact h1.grown hg (by simp; omega) (fun k hk => (hcw.out.lt k hk).1)
            have Hnext := Lib.hid hnext
            clear hrd hstep hput ho2 hsn hnext
            go_wp2_with (at_builtin; refine append_one_at _ hsz rfl (.tmp 36) (.tmp 38) 27 rfl wo.heap.size 3 i0 _ 8 Try.underlying27 Hi0.out Hz0.out Hz1.out Hz2.out (by rfl) _ _ _ rfl hcw2 (by rfl) _ rfl hm1 hm2 hbs ?_; intro v1 w3 hown1 hg1 _; have hrd := Hrd.out w3 ((Hnext.out v1 w3 hg1).belowFlg hb.out (Nat.le_succ N) hNle))
            go_roundw
            case rel =>
              refine ⟨cc ++ [d], f d, rfl, Hstep, Lib.hid (Hnext.out v1 _ hg1), Lib.hid ?_, Lib.hid ?_⟩
              · refine (Hput.out.alloc _).grown hg1 (fun e => ?_)
                have := (hcw.out.lt _ e.symm).1
                omega
              · rw [List.length_append, intsOf_snoc, ← intCells_snoc]; exact hown1
            case measure =>
              obtain ⟨xa, xc, e⟩ := own_len hown1
              subst e
              simp [vLen]; omega
    · obtain rfl : i = l.length := by omega
      obtain ⟨hs', hh1, hown, hin, hap⟩ := hk.out.2
      obtain ⟨ga, gc, rfl, hgc, hgm, hgrid⟩ := grid_done hown (by have := congrArg List.length hh1; rw [List.length_map, Mp.natRows_len] at this; exact this) hin hap
      rw [hh1] at hgrid
      have Hgrid := Lib.hid hgrid
      clear hh1 hown hin hap hgrid hk
      go_wp2
      go_ret
      rw [Hfin.out]
      exact ⟨ga, gc, by rw [Mp.natRows_len]; rfl, by rw [Mp.natRows_len]; exact hgc, hgm, by rw [HN.out]; exact Hgrid.out, by rw [HN.out]; exact hb.out⟩

set_option maxRecDepth 10000 in
set_option maxHeartbeats 4000000 in
theorem impl_cycles (p lo n : Nat) (f : Nat → Nat) (w : World) (h : MapAt w lo p f n) (hflt : ∀ d, d < n → f d < n) (hn : n ≤ 24) :
    Calls Try.prog 63 #[.pointer (some ⟨p, 0, none⟩)] w fun e w' => GivesRows w (Mp.natRows (Mp.cycTo f n n).2) e w' := by
  obtain ⟨g, cap, hcell0, _, hcap, hcm, hpg, hlop, hp, hlog, hg, hblk, hrow⟩ := h.open
  obtain ⟨i0, hi0, hz0, hz1, hz2⟩ := info_int_parts
  obtain ⟨j0, hj0, hy0, hy1, hy2⟩ := info_ints_parts
  have hmk := mk_unseen n (by omega)
  have hreadp : ∀ W, Below w.heap.size w W → W.cell? ⟨p, 0, none⟩ = some (.slice (some ⟨g, 0, none⟩) n cap) := fun W hW => by rw [hW.cell (p := ⟨p, 0, none⟩) hp]; exact hcell0
  have hread : ∀ d, d < n → ∀ W, Below w.heap.size w W → W.cell? ⟨g, d, none⟩ = some (.int .i64 ((f d : Nat) : Int)) := fun d hd W hW => by
    rw [hW.cell (p := ⟨g, d, none⟩) hg]; exact ownRow_cell hrow hd
  obtain ⟨R, hfin⟩ : ∃ R, Mp.natRows (Mp.cycTo f n n).2 = R := ⟨_, rfl⟩
  rw [hfin]
  have hst : CycAt w.heap.size w.heap.size (w.alloc (.cells (unseen n) 4)) f n 0 (.slice none 0 0) := by
    refine ⟨?_, [], rfl, World.ownsRow_nil _ _ _ _, fun _ h => (by cases h), Apts.nil⟩
    rw [Mp.cycTo_zero]
    exact Flg.start w n
  have hb0 : Below w.heap.size w (w.alloc (.cells (unseen n) 4)) := (Below.refl _ _).alloc (Nat.le_refl _) _
  generalize hN : w.heap.size = N at *
  have HN := Lib.hid hN
  have Hi0 := Lib.hid hi0; have Hz0 := Lib.hid hz0; have Hz1 := Lib.hid hz1; have Hz2 := Lib.hid hz2
  have Hj0 := Lib.hid hj0; have Hy0 := Lib.hid hy0; have Hy1 := Lib.hid hy1; have Hy2 := Lib.hid hy2
  have Hst := Lib.hid hst; have Hb0 := Lib.hid hb0; have Hfin := Lib.hid hfin; have Hread := Lib.hid hread; have Hreadp := Lib.hid hreadp; have Hflt := Lib.hid hflt
  clear hi0 hz0 hz1 hz2 hj0 hy0 hy1 hy2 hst hb0 hfin hread hreadp hflt h hblk hrow
  go_enter Try.func63, Try.ntmps63
  go_wp2
  go_loopw [3, 5, 6, 7, 19] (fun ov _ _ _ iv wr => ∃ i : Nat, i ≤ n ∧ iv = .int .i64 i ∧ Hid (Below N w wr) ∧ Hid (CycAt N N wr f n i ov)) (fun _ _ _ _ iv _ => n - (intOf iv).toNat)
  case atStart => exact ⟨0, by omega, rfl, Hb0, Hst⟩
  case round =>
    obtain ⟨i, hi, rfl, hb, hk⟩ := hrel
    by_cases hlt : i < n
    · have hNle : N ≤ wr.heap.size := by have := hb.out.size; rw [HN.out] at this; exact this
      have hsk := Mp.cycTo_skip2 (f := f) (n := n) (i := i)
      have htk := fun c (h : Mp.cyc f (n + 1) (Mp.cycTo f n i).1 i = c) (h0 : c ≠ []) => Mp.cycTo_take2 h h0
      have hlen := Mp.cycTo_len f n i
      have hkk := hk.out
      unfold CycAt at hkk
      have Hnx : Hid (∀ W v, (∃ c, Mp.cyc f (n + 1) (Mp.cycTo f n i).1 i = c ∧ c ≠ [] ∧ Flg W N (Mp.seen (Mp.cycTo f n i).1 c) n ∧ ∃ hs : List Hd, hs.map Hd.l = Mp.natRows ((Mp.cycTo f n i).2 ++ [c]) ∧ W.ownsRow N 27 1 v ((Mp.cycTo f n i).2.length + 1) (hdCells hs) ∧ (∀ h ∈ hs, RowIn W N W.heap.size 3 h.a (intCells h.l)) ∧ Apts hs) → CycAt N N W f n (i + 1) v) := Lib.hid (by
        rintro W v ⟨c, hc, h0, h1, hs', h2, h3, h4⟩
        unfold CycAt
        rw [htk c hc h0]
        exact ⟨h1, hs', h2, by rw [List.length_append]; exact h3, h4⟩)
      have Hns : Hid (∀ W v, Mp.cyc f (n + 1) (Mp.cycTo f n i).1 i = [] → (Flg W N (Mp.cycTo f n i).1 n ∧ ∃ hs : List Hd, hs.map Hd.l = Mp.natRows (Mp.cycTo f n i).2 ∧ W.ownsRow N 27 1 v (Mp.cycTo f n i).2.length (hdCells hs) ∧ (∀ h ∈ hs, RowIn W N W.heap.size 3 h.a (intCells h.l)) ∧ Apts hs) → CycAt N N W f n (i + 1) v) := Lib.hid (by
        intro W v hc hh
        unfold CycAt
        rw [hsk hc]
        exact hh)
      clear htk hsk hk
      generalize (Mp.cycTo f n i).1 = s at *
      generalize (Mp.cycTo f n i).2 = C at *
      obtain ⟨hflg, hs', hh1, hown, hin, hap⟩ := hkk
      obtain ⟨ova, ovc, rfl⟩ := own_len hown
      have hG : N < wr.heap.size := hflg.lt
      have Hflg := Lib.hid hflg; have Hh1 := Lib.hid hh1; have Hown := Lib.hid hown; have Hin := Lib.hid hin; have Hap := Lib.hid hap; have Hlen := Lib.hid hlen
      clear hflg hh1 hown hin hap hlen
      obtain ⟨wo, rfl⟩ : ∃ wo, wo = wr := ⟨_, rfl⟩
      go_wp2
      go_loopw [6, 7] (fun cv dv w2 => ∃ (cc : List Nat) (d : Nat), dv = .int .i64 d ∧ Hid (Mp.Mid f n s i cc d) ∧ Hid (Only N (N + 1) wo w2) ∧ Hid (Flg w2 N (Mp.seen s cc) n) ∧ Hid (w2.ownsRow wo.heap.size 3 1 cv cc.length (intCells (intsOf cc)))) (fun cv _ _ => n + 1 - vLen cv)
      case atStart => exact ⟨[], i, rfl, Lib.hid (Mp.Mid.start f s hlt), Lib.hid (Only.refl _ _ _), Lib.hid (by rw [Mp.seen_nil]; exact Hflg.out), Lib.hid (World.ownsRow_nil _ _ _ _)⟩
      case round =>
        obtain ⟨cc, d, rfl, hmid, honly, hfl, hcw⟩ := hrel
        have hd : d < n := hmid.out.dlt
        have hcell := hfl.out.cell hd
        have hfz := hfl.out.frozen d
        have hMle := honly.out.size
        have hbB := honly.out.belowFlg hb.out (Nat.le_refl N) hNle
        obtain ⟨ca, ccap, rfl⟩ := own_len hcw.out
        by_cases hsn : Mp.seen s cc d = true
        · rw [hsn] at hcell
          have hcyc := hmid.out.stop hsn
          have hcl := hmid.out.len
          have hown2 := own_noFlg Hown.out honly.out Hflg.out (by decide)
          have hin2 := fun h hh => (Hin.out h hh).noFlg honly.out Hflg.out (by decide)
          have Hcyc := Lib.hid hcyc; have Hin2 := Lib.hid hin2; have HbB := Lib.hid hbB
          by_cases hc0 : cc.length = 0
          · have hc1 : ¬ (0 : Int) < (cc.length : Int) := by omega
            have hnil : cc = [] := List.eq_nil_of_length_eq_zero hc0
            have hfl2 := hfl.out
            rw [hnil] at hcyc hfl2
            rw [Mp.seen_nil] at hfl2
            have Hdone := Lib.hid (Hns.out _ _ hcyc ⟨hfl2, hs', Hh1.out, hown2, fun h hh => (hin2 h hh).mono (Nat.le_refl _) hMle, Hap.out⟩)
            clear hcyc hin2 hbB hsn hnil hfl2 hown2
            go_wp2
            go_roundw
            case rel => exact ⟨i + 1, by omega, by go_num, HbB, Hdone⟩
            case measure => simp [intOf]; omega
          · have hc1 : (0 : Int) < (cc.length : Int) := by omega
            have Hne : Hid (cc ≠ []) := Lib.hid (fun e => hc0 (by rw [e]; rfl))
            obtain ⟨xa, xc, e, hlc, hfr⟩ := own_fresh hcw.out (by rw [intCells_len, intsOf_len])
            cases e
            have hm1 : C.length + 1 ≤ maxLen := by have := Hlen.out; unfold maxLen; omega
            have hm2 : (C.length + 1) * 24 ≤ 140737488355328 := by have := Hlen.out; omega
            have hN2 : N ≤ wr.heap.size := by omega
            have Hfr := Lib.hid hfr; have Hlc := Lib.hid hlc
            clear hcyc hin2 hbB hsn hfr hlc hc0
            go_wp2_with (at_builtin; refine append_one rfl (.tmp 45) (.tmp 47) 22 rfl N 27 j0 _ 24 Try.underlying22 Hj0.out Hy0.out Hy1.out Hy2.out (by rfl) _ _ _ rfl hown2 (by rfl) _ rfl hm1 hm2 hN2 ?_; intro v1 w1 hown1 hg1 _)
            go_roundw
            case rel =>
              have hst := grid_more (c := ccap) Hin2.out Hap.out hown2 hNle hMle Hfr.out hg1 (by rw [intsOf_len]; exact Hlc.out)
              refine ⟨i + 1, by omega, by go_num, Lib.hid (Below.grown (HbB.out.alloc hN2 _) hg1 (by simp; omega) (fun k hk => (hown2.lt k hk).1)), Lib.hid (Hnx.out _ _ ⟨cc, Hcyc.out, Hne.out, ?_, hs' ++ [⟨ca, ccap, intsOf cc⟩], ?_, ?_, hst⟩)⟩
              · exact hfl.out.offRow hown2 (by decide) hg1
              · rw [List.map_append, Hh1.out, Mp.natRows_snoc]; rfl
              · rw [← hdCells_snoc]; unfold Hd.val; rw [intsOf_len]; exact hown1
            case measure => simp [intOf]; omega
        · have hsn : Mp.seen s cc d = false := by simpa using hsn
          rw [hsn] at hcell
          have hstep := hmid.out.step hsn (Hflt.out d hd)
          have hput := (hfl.out.put true hd).congr fun k _ => Mp.seen_put s cc d k
          have ho2 := honly.out.set (i := d) (v := .bool true)
          have hcl := hmid.out.len
          have hcw2 : (wr.setCell ⟨N, d, none⟩ (.bool true)).ownsRow wo.heap.size 3 1 (.slice ca cc.length ccap) cc.length (intCells (intsOf cc)) :=
            own_grown hcw.out (g := N) (only_setCell (World.grownBy.refl _ _) (Or.inl rfl) _) (fun k hk => by have := (hcw.out.lt k hk).1; omega)
          have hsz : (wr.setCell ⟨N, d, none⟩ (.bool true)).heap.size = wr.heap.size := by simp [World.setCell]
          have hbs : wo.heap.size ≤ (wr.setCell ⟨N, d, none⟩ (.bool true)).heap.size := by rw [hsz]; exact hMle
          have hm1 : cc.length + 1 ≤ maxLen := by unfold maxLen; omega
          have hm2 : (cc.length + 1) * 8 ≤ 140737488355328 := by omega
          have hrd0 := Hread.out d hd
          have Hrd := Lib.hid hrd0; have Hstep := Lib.hid hstep; have Hput := Lib.hid hput; have Ho2 := Lib.hid ho2
          have hnext : ∀ (v1 : Value) (w3 : World), ((wr.setCell ⟨N, d, none⟩ (.bool true)).alloc (.cells #[.int .i64 (d : Int)] 3)).grownBy w3 (Value.slice ca cc.length ccap).ownBlock → Only N (N + 1) wo w3 := fun v1 w3 hg => by
            refine Ho2.out.next ?_
            have h1 : Below wo.heap.size (wr.setCell ⟨N, d, none⟩ (.bool true)) ((wr.setCell ⟨N, d, none⟩ (.bool true)).alloc (.cells #[.int .i64 (d : Int)] 3)) := (Below.refl _ _).alloc hbs _
            exact h1.grown hg (by simp; omega) (fun k hk => (hcw.out.lt k hk).1)
          have Hnext := Lib.hid hnext
          have h0d : (0 : Int) ≤ (d : Int) := by omega
          have h1d : (d : Int) < (n : Int) := by omega
          clear hrd0 hstep hput ho2 hsn hnext hbB
          go_wp2_with (at_builtin; refine append_one_at _ hsz rfl (.tmp 38) (.tmp 40) 27 rfl wo.heap.size 3 i0 _ 8 Try.underlying27 Hi0.out Hz0.out Hz1.out Hz2.out (by rfl) _ _ _ rfl hcw2 (by rfl) _ rfl hm1 hm2 hbs ?_; intro v1 w3 hown1 hg1 _; have hrd := Hrd.out w3 ((Hnext.out v1 w3 hg1).belowFlg hb.out (Nat.le_refl N) hNle); have hrp := Hreadp.out w3 ((Hnext.out v1 w3 hg1).belowFlg hb.out (Nat.le_refl N) hNle))
          go_roundw
          case rel =>
            refine ⟨cc ++ [d], f d, rfl, Hstep, Lib.hid (Hnext.out v1 _ hg1), Lib.hid ?_, Lib.hid ?_⟩
            · refine (Hput.out.alloc _).grown hg1 (fun e => ?_)
              have := (hcw.out.lt _ e.symm).1
              omega
            · rw [List.length_append, intsOf_snoc, ← intCells_snoc]; exact hown1
          case measure =>
            obtain ⟨xa, xc, e⟩ := own_len hown1
            subst e
            simp [vLen]; omega
    · obtain rfl : i = n := by omega
      obtain ⟨hs', hh1, hown, hin, hap⟩ := hk.out.2
      obtain ⟨ga, gc, rfl, hgc, hgm, hgrid⟩ := grid_done hown (by have := congrArg List.length hh1; rw [List.length_map, Mp.natRows_len] at this; exact this) hin hap
      rw [hh1] at hgrid
      have Hgrid := Lib.hid hgrid
      clear hh1 hown hin hap hgrid hk
      go_wp2
      go_ret
      rw [← Hfin.out]
      exact ⟨ga, gc, by rw [Mp.natRows_len]; rfl, by rw [Mp.natRows_len]; exact hgc, hgm, by rw [HN.out]; exact Hgrid.out, by rw [HN.out]; exact hb.out⟩




namespace Mp
theorem cycs_sum {f : Nat → Nat} {n : Nat} (hf : ∀ d, d < n → f d < n) : ∀ i, i ≤ n → (∀ c ∈ (cycTo f n i).2, c.Nodup ∧ ∀ x ∈ c, x < n)
  | 0, _ => by rw [cycTo_zero]; intro c hc; cases hc
  | i + 1, hi => by
    intro c hc
    have ih := cycs_sum hf i (by omega)
    rw [cycTo_succ] at hc; unfold cycStep at hc
    split at hc
    · exact ih c hc
    · simp only [List.mem_append, List.mem_singleton] at hc
      rcases hc with hc | rfl
      · exact ih c hc
      · -- the walk's own facts
        have key : ∀ (m : Nat) {cc : List Nat} {d : Nat}, n + 1 - cc.length ≤ m → Mid f n (cycTo f n i).1 i cc d → ∃ c d, Mid f n (cycTo f n i).1 i c d ∧ seen (cycTo f n i).1 c d = true := by
          intro m
          induction m with
          | zero => intro cc d hm h; have := h.len; omega
          | succ m ih2 =>
            intro cc d hm h
            by_cases hd : seen (cycTo f n i).1 cc d = true
            · exact ⟨cc, d, h, hd⟩
            · exact ih2 (by have := h.len; rw [List.length_append, List.length_singleton]; omega) (h.step (by simpa using hd) (hf _ h.dlt))
        obtain ⟨c, d, h, hd⟩ := key (n + 1) (cc := []) (d := i) (by simp) (Mid.start f _ (by omega))
        rw [h.stop hd]
        exact ⟨h.nodup, h.lt⟩
theorem natRows_tot {f : Nat → Nat} {n : Nat} (hf : ∀ d, d < n → f d < n) (hn : n ≤ 24) : tot (natRows (cycTo f n n).2) ≤ 1000000 := by
  have h1 := cycs_sum hf n (Nat.le_refl _)
  have h2 := cycTo_len f n n
  have h3 : ∀ L : List (List Nat), (∀ c ∈ L, c.length ≤ 24) → sumLen (natRows L) ≤ 24 * L.length := by
    intro L
    induction L with
    | nil => intro _; simp [sumLen, natRows]
    | cons c t ih =>
      intro h
      have a := h c (List.mem_cons_self ..)
      have b := ih fun x hx => h x (List.mem_cons_of_mem _ hx)
      unfold sumLen natRows at b ⊢
      simp only [List.map_cons, List.sum_cons, List.length_map, List.length_cons] at b ⊢
      omega
  have := h3 _ fun c hc => Nat.le_trans (nodup_len (h1 c hc).1 (h1 c hc).2) hn
  unfold tot
  rw [natRows_len]; omega
theorem cyclesOf_tot (l : List Int) : tot (cyclesOf l) ≤ 1000000 := by
  unfold cyclesOf; split
  · rename_i h; exact natRows_tot (fun d hd => at_lt h.2.2.2 hd) h.2.1
  · simp [tot, sumLen]
theorem facesOf_tot (l : List Int) : tot (facesOf l) ≤ 1000000 := by
  unfold facesOf; split
  · rename_i h; exact natRows_tot (fun d hd => at_lt (dual_isM h).2.2.2 hd) (dual_isM h).2.1
  · simp [tot, sumLen]
end Mp
end Go.Proofs.Ytpgdmbolckogcaa
