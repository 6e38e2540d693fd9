/-
  The walks of the program's mustParse, ParseInt and ParseNumber, and of the model's: a text is read as Num.rd reads it.
-/
import Derived.Test.YtehibigjdbpikaaGreatDoorBase
import Derived.Test.YtehibigjdbpikaaGreatDoorFmt
import Derived.Test.YtehibigjdbpikaaGreatDoorNum
import Derived.Test.YtehibigjdbpikaaGreatDoorRead
import Derived.Test.YtehibigjdbpikaaGreatDoorShelfNum
import Derived.Lib.AtoiErrMem
import Derived.LaidSub
import Derived.Stop.LaidErr
import Derived.Defers
import Derived.Recover
namespace Go.Proofs.YtehibigjdbpikaaGreatDoor
open Go.RowKit Go.Sort

theorem gTab : Tryz.prog.globalNamed "internal/strconv.uint64pow10" = some 2 := by kernel_rfl
theorem gRange : Tryz.prog.globalNamed "strconv.ErrRange" = some 4 := by kernel_rfl
theorem gSynt : Tryz.prog.globalNamed "strconv.ErrSyntax" = some 3 := by kernel_rfl

theorem var_keeps {P : Program} {g : Nat} {W W' : World} {n : String} {cs : Array Value} (h : Below W.heap.size W W') (hg : P.globalNamed n = some g) (hv : W.var? P n = some cs) : W'.var? P n = some cs := by
  have h1 := hv
  unfold World.var? at h1
  simp only [hg, Option.bind_some] at h1
  rcases Nat.lt_or_ge g W.heap.size with hl | hl
  · exact var_below h hg hl hv
  · rw [Array.getElem?_eq_none hl] at h1
    cases h1

/-- What the program's roads read: the table of the powers of ten and the two errors. -/
structure Laid (w : World) : Prop where
  tab : Lib.TabIs Tryz.prog w "internal/strconv.uint64pow10" .u64 Lib.pow10Tab
  range : ∃ t p, w.var? Tryz.prog "strconv.ErrRange" = some #[.iface t p]
  synt : ∃ t p, w.var? Tryz.prog "strconv.ErrSyntax" = some #[.iface t p]
theorem Laid.keeps {w w' : World} (h : Laid w) (hb : Below w.heap.size w w') : Laid w' :=
  ⟨var_keeps hb gTab h.tab, h.range.imp fun _ hh => hh.imp fun _ h => var_keeps hb gRange h, h.synt.imp fun _ hh => hh.imp fun _ h => var_keeps hb gSynt h⟩

theorem tRange : (Tryz.prog.globals[4]?).map (·.type) = some 112 := by kernel_rfl
theorem tSynt : (Tryz.prog.globals[3]?).map (·.type) = some 112 := by kernel_rfl
theorem tTab : (Tryz.prog.globals[2]?).map (·.type) = some 171 := by kernel_rfl
theorem cTab : Tryz.prog.cellsOf 171 = 20 := by kernel_rfl
theorem cU64 : Tryz.prog.cellsOf 154 = 1 := by kernel_rfl
theorem cErr : Tryz.prog.cellsOf 189 = 1 := by kernel_rfl
theorem cStr : Tryz.prog.cellsOf 9 = 1 := by kernel_rfl
theorem star : "*" ++ "errors.errorString" = "*errors.errorString" := by decide
theorem rowErr (u : TypeId) (h : Tryz.prog.typeName? 3 u = some "*errors.errorString") : u = 187 :=
  typeName_ptr_named (nm := "errors.errorString") (by rw [star]; kernel_rfl) (by kernel_rfl) (by decide) u (by rw [star]; exact h)
theorem tab_of {L : List (String × DataW Unit)} {W : World} (h : laidMetH Tryz.prog L W)
    (h1 : L.filter (fun x => x.1 == "internal/strconv.uint64pow10") = [("internal/strconv.uint64pow10", Lib.tabData .u64 Lib.pow10Tab)]) : Lib.TabIs Tryz.prog W "internal/strconv.uint64pow10" .u64 Lib.pow10Tab := by
  have g := laidMetH.filter (fun x => x.1 == "internal/strconv.uint64pow10") h
  rw [h1] at g
  exact Lib.tabIs_of_head (rest := []) gTab tTab Tryz.underlying171 Tryz.underlying154 cU64 cTab g
theorem laid_of {L : List (String × DataW Unit)} {W : World} (h : laidMetH Tryz.prog L W)
    (h1 : L.filter (fun x => x.1 == "internal/strconv.uint64pow10") = [("internal/strconv.uint64pow10", Lib.tabData .u64 Lib.pow10Tab)])
    (h2 : L.filter (fun x => x.1 == "strconv.ErrRange") = [("strconv.ErrRange", Rows.laid_strconv_ErrRange)])
    (h3 : L.filter (fun x => x.1 == "strconv.ErrSyntax") = [("strconv.ErrSyntax", Rows.laid_strconv_ErrSyntax)]) : Laid W := by
  refine ⟨tab_of h h1, ?_, ?_⟩
  · have g := laidMetH.filter (fun x => x.1 == "strconv.ErrRange") h
    rw [h2] at g
    obtain ⟨a, s, hv, -, -, -⟩ := laid_sentinel (r := []) g gRange tRange Tryz.underlying112 rowErr Tryz.underlying187 Tryz.underlying189 rfl rfl Tryz.underlying9 cErr cStr
    exact ⟨_, _, hv⟩
  · have g := laidMetH.filter (fun x => x.1 == "strconv.ErrSyntax") h
    rw [h3] at g
    obtain ⟨a, s, hv, -, -, -⟩ := laid_sentinel (r := []) g gSynt tSynt Tryz.underlying112 rowErr Tryz.underlying187 Tryz.underlying189 rfl rfl Tryz.underlying9 cErr cStr
    exact ⟨_, _, hv⟩

theorem impl_FormatInt (n : Int) (h0 : -9223372036854775808 ≤ n) (h1 : n ≤ 9223372036854775807) (w : World) (htab : Lib.TabIs Tryz.prog w "internal/strconv.uint64pow10" .u64 Lib.pow10Tab) :
    Calls Tryz.prog 84 #[.int .i64 n] w fun e w' => e = .returned (.string ⟨(Lib.itoa n).toArray⟩) ∧ Below w.heap.size w w' := by
  go_enter Tryz.func84, Tryz.ntmps84
  go_wp2_with fail
  refine (Tryz.strconv_Itoa n h0 h1 _ htab).mono ?_
  rintro e w' ⟨rfl, k, os, rfl⟩
  go_wp2_with fail
  go_ret
  exact ⟨rfl, below_grow (below_drewN (Below.refl _ _) k) (Nat.le_refl _) os⟩

def badText : ByteArray := ⟨#[109, 97, 108, 102, 111, 114, 109, 101, 100, 32, 105, 110, 116, 101, 103, 101, 114]⟩
/-- What mustParse comes to: the number, or a panic. -/
def Must (r : Int × Bool) (e : Ending) : Prop := if r.2 = true then e = .returned (.int .i64 r.1) else e = .panicked [{ v := .iface 9 (.string badText), recovered := false }]

theorem must_bad {r : Int × Bool} (h : r = (0, false)) : Must r (.panicked [{ v := .iface 9 (.string badText), recovered := false }]) := by
  rw [h]; rfl
set_option maxRecDepth 10000 in
set_option maxHeartbeats 400000 in
theorem impl_mustParse (s : ByteArray) (lo hi : Int) (hlo : -999999999999 ≤ lo) (hhi : hi ≤ 999999999999) (w : World) (hs : s.size ≤ 1048576) (hL : Laid w) :
    Calls Tryz.prog 131 #[.string s, .int .i64 lo, .int .i64 hi] w fun e w' => Must (Num.rdI lo hi s.data.toList) e ∧ Below w.heap.size w w' := by
  have HL := Lib.hid hL; clear hL
  cases h : Lib.atoiAll s.data.toList with
  | ok v =>
    have hx : Num.rdI lo hi s.data.toList = if v < lo ∨ hi < v then (0, false) else if Lib.itoa v = s.data.toList then (v, true) else (0, false) := by unfold Num.rdI; rw [h]
    have Hx := Lib.hid hx; clear hx
    go_enter Tryz.func131, Tryz.ntmps131
    go_wp2_with fail
    refine (Any.strconv_Atoi_ok Tryz.laysC172 s (by omega) v h _).mono ?_
    rintro e w1 ⟨rfl, hw⟩
    have hb1 : Below w.heap.size w w1 := by
      rcases hw with rfl | ⟨t, rfl⟩
      · exact Below.refl _ _
      · exact Lib.bytesWorld_below _ _ _
    clear hw h
    by_cases hr : v < lo ∨ hi < v
    · rw [if_pos hr] at Hx
      by_cases hr1 : v < lo
      · go_wp2
        exact ⟨rfl, must_bad Hx.out, hb1⟩
      · have hr2 : hi < v := by omega
        go_wp2
        exact ⟨rfl, must_bad Hx.out, hb1⟩
    · have h1 : lo ≤ v := by omega
      have h2 : v ≤ hi := by omega
      rw [if_neg hr] at Hx
      clear hr
      go_wp2_with fail
      refine (impl_FormatInt v (by omega) (by omega) _ (HL.out.keeps hb1).tab).mono ?_
      rintro e w2 ⟨rfl, hb2⟩
      by_cases he : Lib.itoa v = s.data.toList
      · rw [if_pos he] at Hx
        go_wp2
        go_ret
        exact ⟨by rw [Hx.out]; rfl, hb1.trans (hb2.mono hb1.size)⟩
      · have hne : (Lib.itoa v == s.toList) = false := by rw [beq_eq_false_iff_ne, ByteArray.toList_eq]; exact he
        rw [if_neg he] at Hx
        go_wp2
        exact ⟨rfl, must_bad Hx.out, hb1.trans (hb2.mono hb1.size)⟩
  | range =>
    have Hx : Hid (Num.rdI lo hi s.data.toList = (0, false)) := by unfold Num.rdI; rw [h]; exact Lib.hid rfl
    obtain ⟨tp, p, hv⟩ := HL.out.range
    go_enter Tryz.func131, Tryz.ntmps131
    go_wp2_with fail
    refine (Any.strconv_Atoi_range_var Tryz.laysC172 s (by omega) h tp p _ hv).mono ?_
    rintro e w1 ⟨N, rfl, -, -, hb1⟩
    clear h hv
    go_wp2
    exact ⟨rfl, must_bad Hx.out, hb1⟩
  | _ =>
    have Hx : Hid (Num.rdI lo hi s.data.toList = (0, false)) := by unfold Num.rdI; rw [h]; exact Lib.hid rfl
    obtain ⟨tp, p, hv⟩ := HL.out.synt
    go_enter Tryz.func131, Tryz.ntmps131
    go_wp2_with fail
    refine (Any.strconv_Atoi_syntax_var Tryz.laysC172 s (by omega) h tp p _ hv).mono ?_
    rintro e w1 ⟨N, rfl, -, -, hb1⟩
    clear h hv
    go_wp2
    exact ⟨rfl, must_bad Hx.out, hb1⟩

theorem ParseInt_catch (pv : Value) (u : TypeId) (older : List PanicEntry) (w : World) :
    CallsD Tryz.prog 130 #[] (.panicking ({ v := .iface u pv, recovered := false } :: older)) w fun e u' w' =>
      e = .returned (.tuple #[]) ∧ u' = .panicking ({ v := .iface u pv, recovered := true } :: older) ∧ w' = w := by
  refine callsD_of_wpS Tryz.func130 rfl fun c₀ cs hu => ?_
  apply wpS_region
  simp [wpOpsS, go_sem, recoverD, hu, Tryz.ntmps130, bodyPostS, results, Tryz.results130]
theorem ParseInt_idle (w : World) :
    CallsD Tryz.prog 130 #[] .returning w fun e u' w' => e = .returned (.tuple #[]) ∧ u' = .returning ∧ w' = w := by
  refine callsD_of_wpS Tryz.func130 rfl fun c₀ cs hu => ?_
  apply wpS_region
  cases c₀
  simp_all [wpOpsS, go_sem, recoverD, hu, Tryz.ntmps130, bodyPostS, results, Tryz.results130]

set_option maxRecDepth 10000 in
theorem impl_ParseInt (s : ByteArray) (w : World) (hs : s.size ≤ 1048576) (hL : Laid w) :
    Calls Tryz.prog 100 #[.string s] w fun e w' => e = .returned (.tuple #[.int .i64 (Num.rd 12 s.data.toList).1, .bool (Num.rd 12 s.data.toList).2]) ∧ Below w.heap.size w w' := by
  have hm := impl_mustParse s (-999999999999) 999999999999 (by omega) (by omega) w hs hL
  rw [Num.int_same] at hm
  have hf := Num.rd_false (k := 12) (l := s.data.toList)
  have Hm := Lib.hid hm; clear hm
  have Hf := Lib.hid hf; clear hf
  generalize Num.rd 12 s.data.toList = r at *
  go_enter_defers Tryz.func100, Tryz.ntmps100
  go_wp2_with fail
  refine Hm.out.mono ?_
  rintro e w1 ⟨hm, hb1⟩
  cases hr : r.2 with
  | true =>
    unfold Must at hm
    rw [if_pos hr] at hm
    subst hm
    have Hr := Lib.hid hr; clear hr
    go_wp2
    refine leaves_cons (f := 130) (args := #[]) (by simp) (by simp [go_sem]) ?_
    refine (ParseInt_idle _).mono ?_
    rintro e u' w'' ⟨rfl, rfl, rfl⟩
    simp [Leaves, settle, results, Tryz.results100, go_sem, Hr.out, hb1]
  | false =>
    have hr0 := Hf.out hr
    subst hr0
    have hm : e = .panicked [{ v := .iface 9 (.string badText), recovered := false }] := hm
    subst hm
    clear hr
    go_wp2
    refine leaves_cons (f := 130) (args := #[]) (by simp) (by simp [go_sem]) ?_
    refine (ParseInt_catch _ _ [] _).mono ?_
    rintro e u' w'' ⟨rfl, rfl, rfl⟩
    simp [Leaves, settle, results, Tryz.results100, go_sem, hb1]


set_option maxRecDepth 10000 in
theorem spec_ParseInt (s : ByteArray) (w : World) (hs : s.size ≤ 1048576) :
    Calls Tryz.prog 101 #[.string s] w fun e w' => e = .returned (.tuple #[.int .i64 (Num.rd 12 s.data.toList).1, .bool (Num.rd 12 s.data.toList).2]) ∧ Below w.heap.size w w' := by
  have hm := spec_l1Read s 12 (by omega) w hs
  generalize Num.rd 12 s.data.toList = r at hm ⊢
  have Hm := Lib.hid hm; clear hm
  go_enter Tryz.func101, Tryz.ntmps101
  go_wp2_with fail
  refine Hm.out.mono ?_
  rintro e w1 ⟨rfl, hb⟩
  go_wp2
  go_ret2
  exact ⟨rfl, hb⟩
end Go.Proofs.YtehibigjdbpikaaGreatDoor
