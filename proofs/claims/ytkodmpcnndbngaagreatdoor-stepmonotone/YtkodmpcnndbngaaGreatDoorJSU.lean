/-
  Texts of contracts and plain lemmas, one behind another; each says at its head what it holds.
-/
import Derived.Test.YtkodmpcnndbngaaGreatDoorJST
import Derived.Test.YtkodmpcnndbngaaGreatDoorJRF
/-
  step.counted, Takes and Gives: how many entries an instruction takes and gives, as the plain function says; nothing old is turned.
-/
namespace Go.Proofs.YtkodmpcnndbngaaGreatDoor
open Go.RowKit
set_option maxRecDepth 20000

def spZ : Sp := ⟨none, 0, [], none, 0, [], 0, frZ, 0, 0, 0, 0⟩
theorem built_sp0 (s : Sp) (hf : s.f = frZ) : Tryz.prog.built 51 [(0, .agg #[.slice s.ao s.T.length s.cap, .slice s.so s.L.length s.sc, .int .i64 s.fn]), (2, .agg #[.int .i64 s.p, .int .u8 (s.op : Int), .int .i64 s.a, .int .i64 s.b])] = some (spA s) := by
  unfold spA spL envL inL
  rw [hf]
  kernel_rfl
theorem wpList_buildC {P : Program} {ops : Array Oper} {rest : List Oper} {o : Oper} {a : Act} {w : World} {Q : Exit → Act → World → Prop} (hg : o.guard = none) (t : TypeId) (parts : Array (Nat × Operand)) (ho : o.op = .build t parts)
    (cells : Array Value) (vs : List (Nat × Value)) (hv : (parts.map fun (i, x) => (i, a.eval x)).toList = vs) (hc : P.built t vs = some cells)
    (h : wpList P ops Q rest (a.put o.dst (.agg cells)) w) : wpList P ops Q (o :: rest) a w :=
  wpList_build hg t parts ho (by rw [hv, hc]; rfl) (by rw [hv, hc]; exact h)
theorem wpList_store_rowB {P : Program} {ops : Array Oper} {rest : List Oper} {o : Oper} {a : Act} {w : World} {Q : Exit → Act → World → Prop} (hgd : o.guard = none) (ty : TypeId) (x y : Operand) (ho : o.op = .store ty x y)
    (g : Nat) (cells : Array Value) (hx : a.eval x = .pointer (some ⟨g, 0, none⟩)) (hy : a.eval y = .agg cells)
    (t : TypeId) (old : Array Value) (hg : w.heap[g]? = some (.cells old t (0, 0))) (hi : (P.info? ty).map (·.size) = some cells.size)
    (hold : old.size = cells.size) (h1 : cells.all (·.oneCell') = true) (B : Nat) (w0 : World) (hB0 : Below B w0 w) (hBg : B ≤ g)
    (h : ∀ W', W'.heap[g]? = some (.cells cells t (0, 0)) → Below B w0 W' → wpList P ops Q rest (a.put o.dst undef) W') : wpList P ops Q (o :: rest) a w :=
  wpList_store_row hgd ty x y ho g cells hx hy t old hg hi hold h1 (h _ (setRow_heap _ _ _ _ _ _ hg) (below_setRow' hB0 hBg _))
/-- How many entries an instruction takes and gives. -/
def cntD (s : Sp) : Nat × Nat × Int := if canD s.T s.L s.fn = false then (0, 0, 1) else if unkD s ≠ 0 then (0, 0, unkD s) else ((tkD s).length, (gvD s (tkD s)).length, 0)
def cntV (c : Nat × Nat × Int) : Value := .tuple #[.int .i64 (c.1 : Int), .int .i64 (c.2.1 : Int), .int .i64 c.2.2]
def IBx (W : World) (g : Nat) (s : Sp) : Prop := W.heap[g]? = some (.cells #[.int .i64 s.p, .int .u8 (s.op : Int), .int .i64 s.a, .int .i64 s.b] 31 (0, 0))
theorem IBx.lt {W : World} {g : Nat} {s : Sp} (h : IBx W g s) : g < W.heap.size := (Array.getElem?_eq_some_iff.1 h).1
theorem unk_op {s : Sp} (h : unkD s = 0) : s.op < 34 := by
  by_cases h34 : s.op < 34
  · exact h34
  · unfold unkD unkO at h
    rw [if_pos (by omega)] at h
    exact absurd h (by decide)
theorem run_rule_f0 (W : World) (x y z : Value) : (Instr.field 74 (.agg #[x, y, z]) 0).run Tryz.prog W = .ok x W := by rfl
theorem run_rule_f1 (W : World) (x y z : Value) : (Instr.field 74 (.agg #[x, y, z]) 1).run Tryz.prog W = .ok y W := by rfl
def Enters (n : Nat) : Prop := ∀ (args : Array Value) (W : World), (callFunc n args).run Tryz.prog W = .ok (.enter n args) W
theorem ent_anyTwo : Enters 84 := fun args W => by kernel_rfl
theorem ent_anything : Enters 81 := fun args W => by kernel_rfl
theorem ent_bothIntsOrBools : Enters 88 := fun args W => by kernel_rfl
theorem ent_classAndField : Enters 97 := fun args W => by kernel_rfl
theorem ent_givesBool : Enters 77 := fun args W => by kernel_rfl
theorem ent_givesClass : Enters 94 := fun args W => by kernel_rfl
theorem ent_givesField : Enters 96 := fun args W => by kernel_rfl
theorem ent_givesInt : Enters 76 := fun args W => by kernel_rfl
theorem ent_givesItsResult : Enters 92 := fun args W => by kernel_rfl
theorem ent_givesLocal : Enters 79 := fun args W => by kernel_rfl
theorem ent_givesNothing : Enters 75 := fun args W => by kernel_rfl
theorem ent_givesNull : Enters 78 := fun args W => by kernel_rfl
theorem ent_givesRow : Enters 98 := fun args W => by kernel_rfl
theorem ent_givesTurned : Enters 85 := fun args W => by kernel_rfl
theorem ent_givesTwice : Enters 83 := fun args W => by kernel_rfl
theorem ent_itsParams : Enters 91 := fun args W => by kernel_rfl
theorem ent_localIsKnown : Enters 80 := fun args W => by kernel_rfl
theorem ent_nothing : Enters 74 := fun args W => by kernel_rfl
theorem ent_oneBool : Enters 89 := fun args W => by kernel_rfl
theorem ent_oneClass : Enters 95 := fun args W => by kernel_rfl
theorem ent_oneInt : Enters 87 := fun args W => by kernel_rfl
theorem ent_oneRef : Enters 102 := fun args W => by kernel_rfl
theorem ent_oneRow : Enters 99 := fun args W => by kernel_rfl
theorem ent_ownResult : Enters 93 := fun args W => by kernel_rfl
theorem ent_rowAndInt : Enters 100 := fun args W => by kernel_rfl
theorem ent_rowAndTwoInts : Enters 101 := fun args W => by kernel_rfl
theorem ent_takenIsKnown : Enters 82 := fun args W => by kernel_rfl
theorem ent_twoInts : Enters 86 := fun args W => by kernel_rfl
theorem ent_twoRefs : Enters 90 := fun args W => by kernel_rfl
theorem rule_three : ∀ op, op < 34 → ∃ (n m : Nat) (v : Value), ruleA op = #[fv n, fv m, v] ∧ Enters n ∧ Enters m :=
  cases34 (p := fun op => ∃ (n m : Nat) (v : Value), ruleA op = #[fv n, fv m, v] ∧ Enters n ∧ Enters m) ⟨_, _, _, rfl, ent_nothing, ent_givesNothing⟩ ⟨_, _, _, rfl, ent_nothing, ent_givesInt⟩ ⟨_, _, _, rfl, ent_nothing, ent_givesBool⟩ ⟨_, _, _, rfl, ent_nothing, ent_givesNull⟩ ⟨_, _, _, rfl, ent_nothing, ent_givesLocal⟩ ⟨_, _, _, rfl, ent_anything, ent_givesNothing⟩ ⟨_, _, _, rfl, ent_anything, ent_givesNothing⟩ ⟨_, _, _, rfl, ent_anything, ent_givesTwice⟩ ⟨_, _, _, rfl, ent_anyTwo, ent_givesTurned⟩ ⟨_, _, _, rfl, ent_twoInts, ent_givesInt⟩ ⟨_, _, _, rfl, ent_twoInts, ent_givesInt⟩ ⟨_, _, _, rfl, ent_twoInts, ent_givesInt⟩ ⟨_, _, _, rfl, ent_twoInts, ent_givesInt⟩ ⟨_, _, _, rfl, ent_twoInts, ent_givesInt⟩ ⟨_, _, _, rfl, ent_oneInt, ent_givesInt⟩ ⟨_, _, _, rfl, ent_twoInts, ent_givesBool⟩ ⟨_, _, _, rfl, ent_anyTwo, ent_givesBool⟩ ⟨_, _, _, rfl, ent_oneBool, ent_givesBool⟩ ⟨_, _, _, rfl, ent_twoRefs, ent_givesBool⟩ ⟨_, _, _, rfl, ent_nothing, ent_givesNothing⟩ ⟨_, _, _, rfl, ent_oneBool, ent_givesNothing⟩ ⟨_, _, _, rfl, ent_itsParams, ent_givesItsResult⟩ ⟨_, _, _, rfl, ent_ownResult, ent_givesNothing⟩ ⟨_, _, _, rfl, ent_nothing, ent_givesClass⟩ ⟨_, _, _, rfl, ent_oneClass, ent_givesField⟩ ⟨_, _, _, rfl, ent_classAndField, ent_givesNothing⟩ ⟨_, _, _, rfl, ent_oneInt, ent_givesRow⟩ ⟨_, _, _, rfl, ent_oneRow, ent_givesInt⟩ ⟨_, _, _, rfl, ent_rowAndInt, ent_givesInt⟩ ⟨_, _, _, rfl, ent_rowAndTwoInts, ent_givesNothing⟩ ⟨_, _, _, rfl, ent_oneRef, ent_givesClass⟩ ⟨_, _, _, rfl, ent_oneRef, ent_givesBool⟩ ⟨_, _, _, rfl, ent_nothing, ent_givesNothing⟩ ⟨_, _, _, rfl, ent_oneInt, ent_givesNothing⟩
/-- The rule of an instruction, its three functions, and what they say. -/
structure Rule (s : Sp) (n m : Nat) (v : Value) : Prop where
  rule : ∀ w : World, FrOk s.f → Calls Tryz.prog 33 #[.agg (spA s)] w fun e w' => e = .returned (.agg #[fv n, fv m, v]) ∧ Below w.heap.size w w'
  entT : Enters n
  entG : Enters m
  takes : ∀ w : World, SpOk w s → Calls Tryz.prog n #[.agg (spA s)] w (Row w (tkD s))
  gives : ∀ (w : World) (tk : List Nat) (ga : Option Addr) (gc : Nat), SpOk w s → PAt w ga tk → tk.length = (tkD s).length → Calls Tryz.prog m #[.agg (spA s), .slice ga tk.length gc] w (Row w (gvD s tk))
  also : ∀ (tk : List Nat), tk.length = (tkD s).length → (v = .nilFunc ∧ alD s tk = true) ∨ ∃ k : Nat, v = fv k ∧ Enters k ∧ ∀ (w : World) (ga : Option Addr) (gc : Nat), SpOk w s → PAt w ga tk → Calls Tryz.prog k #[.agg (spA s), .slice ga tk.length gc] w fun e w' => e = .returned (.bool (alD s tk)) ∧ Below w.heap.size w w'
theorem fv_inj {n m : Nat} (h : fv n = fv m) : n = m := by
  injection h with h
  injection h
theorem al_split (s : Sp) (tk : List Nat) : ∀ op, op < 34 → tk.length = (tkO s op).length → ((ruleA op)[2]? = some .nilFunc ∧ alO s tk op = true) ∨ ∃ k : Nat, (ruleA op)[2]? = some (fv k) ∧ Enters k ∧ ∀ (w : World) (ga : Option Addr) (gc : Nat), SpOk w s → PAt w ga tk → Calls Tryz.prog k #[.agg (spA s), .slice ga tk.length gc] w fun e w' => e = .returned (.bool (alO s tk op)) ∧ Below w.heap.size w w' :=
  cases34 (p := fun op => tk.length = (tkO s op).length → ((ruleA op)[2]? = some .nilFunc ∧ alO s tk op = true) ∨ ∃ k : Nat, (ruleA op)[2]? = some (fv k) ∧ Enters k ∧ ∀ (w : World) (ga : Option Addr) (gc : Nat), SpOk w s → PAt w ga tk → Calls Tryz.prog k #[.agg (spA s), .slice ga tk.length gc] w fun e w' => e = .returned (.bool (alO s tk op)) ∧ Below w.heap.size w w') (fun _ => Or.inl ⟨rfl, rfl⟩) (fun _ => Or.inl ⟨rfl, rfl⟩) (fun _ => Or.inl ⟨rfl, rfl⟩) (fun _ => Or.inl ⟨rfl, rfl⟩) (fun _ => Or.inr ⟨_, rfl, ent_localIsKnown, fun w _ _ hok _ => al_localIsKnown s _ w hok⟩) (fun hl => Or.inr ⟨_, rfl, ent_takenIsKnown, fun w ga gc _ hP => al_known s tk ga gc w hP hl⟩) (fun _ => Or.inl ⟨rfl, rfl⟩) (fun _ => Or.inl ⟨rfl, rfl⟩) (fun _ => Or.inl ⟨rfl, rfl⟩) (fun _ => Or.inl ⟨rfl, rfl⟩) (fun _ => Or.inl ⟨rfl, rfl⟩) (fun _ => Or.inl ⟨rfl, rfl⟩) (fun _ => Or.inl ⟨rfl, rfl⟩) (fun _ => Or.inl ⟨rfl, rfl⟩) (fun _ => Or.inl ⟨rfl, rfl⟩) (fun _ => Or.inl ⟨rfl, rfl⟩) (fun hl => Or.inr ⟨_, rfl, ent_bothIntsOrBools, fun w ga gc _ hP => al_both s tk ga gc w hP hl⟩) (fun _ => Or.inl ⟨rfl, rfl⟩) (fun _ => Or.inl ⟨rfl, rfl⟩) (fun _ => Or.inl ⟨rfl, rfl⟩) (fun _ => Or.inl ⟨rfl, rfl⟩) (fun _ => Or.inl ⟨rfl, rfl⟩) (fun _ => Or.inl ⟨rfl, rfl⟩) (fun _ => Or.inl ⟨rfl, rfl⟩) (fun _ => Or.inl ⟨rfl, rfl⟩) (fun _ => Or.inl ⟨rfl, rfl⟩) (fun _ => Or.inl ⟨rfl, rfl⟩) (fun _ => Or.inl ⟨rfl, rfl⟩) (fun _ => Or.inl ⟨rfl, rfl⟩) (fun _ => Or.inl ⟨rfl, rfl⟩) (fun _ => Or.inl ⟨rfl, rfl⟩) (fun _ => Or.inl ⟨rfl, rfl⟩) (fun _ => Or.inl ⟨rfl, rfl⟩) (fun _ => Or.inl ⟨rfl, rfl⟩)
theorem rule_of (s : Sp) (hu : unkD s = 0) : ∃ n m v, Rule s n m v := by
  have h34 := unk_op hu
  obtain ⟨n, m, v, hr, en, em⟩ := rule_three s.op h34
  refine ⟨n, m, v, ?_, en, em, ?_, ?_, ?_⟩
  · intro w hfr
    rw [← hr]
    exact rule_any s w hfr h34
  · intro w hok
    obtain ⟨n', e, hc⟩ := tk_says s w hok s.op h34 hu
    rw [hr] at e
    have e := fv_inj (by simpa using e)
    rw [e]
    exact hc
  · intro w tk ga gc hok hP hl
    obtain ⟨n', e, hc⟩ := gv_says s tk ga gc w hok hP s.op h34 hu hl
    rw [hr] at e
    have e := fv_inj (by simpa using e)
    rw [e]
    exact hc
  · intro tk hl
    rcases al_split s tk s.op h34 hl with ⟨e, h⟩ | ⟨k, e, h⟩
    · rw [hr] at e
      exact Or.inl ⟨by simpa using e, h⟩
    · rw [hr] at e
      exact Or.inr ⟨k, by simpa using e, h⟩

set_option maxRecDepth 20000 in
set_option maxHeartbeats 4000000 in
theorem counted_any (s : Sp) (hf : s.f = frZ) (w : World) (hT : TabAt w s.ao s.T) (hcap : s.T.length ≤ s.cap) (hW : WordsAt w) (hz : s.T.length * 48 ≤ 140737488351232) (hL : SgsAt w s.so s.L) (hzl : s.L.length * 32 ≤ 140737488351232) (hw : WidAt w) (ho : s.op < 256) (ha : -9223372036854775808 ≤ s.a ∧ s.a ≤ 9223372036854775807) (hb : -9223372036854775808 ≤ s.b ∧ s.b ≤ 9223372036854775807) :
    Calls Tryz.prog 25 #[.agg #[.slice s.ao s.T.length s.cap, .slice s.so s.L.length s.sc, .int .i64 s.fn], .agg #[.int .i64 s.p, .int .u8 (s.op : Int), .int .i64 s.a, .int .i64 s.b]] w fun e w' => e = .returned (cntV (cntD s)) ∧ Below w.heap.size w w' := by
  have al1 := (Below.refl w.heap.size w).alloc (Nat.le_refl _) (.cells #[.slice s.ao s.T.length s.cap, .slice s.so s.L.length s.sc, .int .i64 s.fn] 25)
  have al := al1.alloc (by simp) (.cells #[.int .i64 s.p, .int .u8 (s.op : Int), .int .i64 s.a, .int .i64 s.b] 31)
  have HB := hide al
  have n1 := heap_alloc_new w (.cells #[.slice s.ao s.T.length s.cap, .slice s.so s.L.length s.sc, .int .i64 s.fn] 25)
  have n2 := heap_alloc_new (w.alloc (.cells #[.slice s.ao s.T.length s.cap, .slice s.so s.L.length s.sc, .int .i64 s.fn] 25)) (.cells #[.int .i64 s.p, .int .u8 (s.op : Int), .int .i64 s.a, .int .i64 s.b] 31)
  rw [World.size_alloc] at n2
  have HC : Hid (EBx ((w.alloc (.cells #[.slice s.ao s.T.length s.cap, .slice s.so s.L.length s.sc, .int .i64 s.fn] 25)).alloc (.cells #[.int .i64 s.p, .int .u8 (s.op : Int), .int .i64 s.a, .int .i64 s.b] 31)) w.heap.size (.slice s.ao s.T.length s.cap) (.slice s.so s.L.length s.sc) s.fn) := hide ((((Below.refl _ _).alloc (Nat.le_refl _) _).block w.heap.size (by simp)).trans n1)
  have HI : Hid (IBx ((w.alloc (.cells #[.slice s.ao s.T.length s.cap, .slice s.so s.L.length s.sc, .int .i64 s.fn] 25)).alloc (.cells #[.int .i64 s.p, .int .u8 (s.op : Int), .int .i64 s.a, .int .i64 s.b] 31)) (w.heap.size + 1) s) := hide n2
  have HCB := hide (canBe_any s.ao s.cap s.T s.so s.sc s.L s.fn _ (hT.below al) hcap (hW.below al) hz (hL.below al) hzl)
  have HOKF : Hid (∀ W, Below w.heap.size w W → canD s.T s.L s.fn = true → SpOk W s) := hide (fun W hB hc => ⟨hT.below hB, hL.below hB, hz, hzl, canD_all hc, by rw [hf]; exact frZ_ok, ho, ha, hb, hw.below hB⟩)
  have hfr : FrOk s.f := by rw [hf]; exact frZ_ok
  have HBU := hide (built_sp0 s hf)
  have HE : Hid (∀ c, cntD s = c → ∀ W, Below w.heap.size w W → (Ending.returned (cntV c) = .returned (cntV (cntD s)) ∧ Below w.heap.size w W)) := hide (fun c h W hB => ⟨by rw [h], hB⟩)
  clear al1 al n1 n2 hT hcap hW hz hL hzl hw ho ha hb hf
  go_enter Tryz.func25, Tryz.ntmps25
  go_upto_region 1 with fail
  generalize ((w.alloc (.cells #[.slice s.ao s.T.length s.cap, .slice s.so s.L.length s.sc, .int .i64 s.fn] 25)).alloc (.cells #[.int .i64 s.p, .int .u8 (s.op : Int), .int .i64 s.a, .int .i64 s.b] 31)) = W1 at HB HC HI HCB ⊢
  go_wp2_with (refine wpList_load_rowG (by kernel_rfl) 25 (.tmp 2) rfl w.heap.size rfl 25 #[.slice s.ao s.T.length s.cap, .slice s.so s.L.length s.sc, .int .i64 s.fn] (0, 0) _ (unhide HC) Tryz.underlying25 rfl (by kernel_rfl) ?_)
  refine (unhide HCB).mono ?_
  rintro e W2 ⟨rfl, hB2⟩
  have HB2 := hide ((unhide HB).trans (hB2.mono (unhide HB).size))
  have HC2 : Hid (EBx W2 w.heap.size (.slice s.ao s.T.length s.cap) (.slice s.so s.L.length s.sc) s.fn) := hide ((hB2.block _ (unhide HC).lt).trans (unhide HC))
  have HI2 : Hid (IBx W2 (w.heap.size + 1) s) := hide ((hB2.block _ (unhide HI).lt).trans (unhide HI))
  clear hB2 HB HC HI HCB W1
  cases hcan : canD s.T s.L s.fn
  · have HC0 : Hid (cntD s = (0, 0, 1)) := hide (by unfold cntD; rw [if_pos hcan])
    clear hcan
    go_wp2
    go_ret3
    exact unhide HE _ (unhide HC0) _ (unhide HB2)
  have HCAN := hide hcan
  clear hcan
  go_upto_region 3 with fail
  refine wp_region_lit ?_
  refine wpList_load_rowG (by kernel_rfl) 25 (.tmp 2) rfl w.heap.size rfl 25 #[.slice s.ao s.T.length s.cap, .slice s.so s.L.length s.sc, .int .i64 s.fn] (0, 0) _ (unhide HC2) Tryz.underlying25 rfl (by kernel_rfl) ?_
  refine wpList_load_rowG (by kernel_rfl) 31 (.tmp 3) rfl (w.heap.size + 1) rfl 31 #[.int .i64 s.p, .int .u8 (s.op : Int), .int .i64 s.a, .int .i64 s.b] (0, 0) _ (unhide HI2) Tryz.underlying31 rfl (by kernel_rfl) ?_
  refine wpList_buildC rfl 51 _ rfl (spA s) [(0, .agg #[.slice s.ao s.T.length s.cap, .slice s.so s.L.length s.sc, .int .i64 s.fn]), (2, .agg #[.int .i64 s.p, .int .u8 (s.op : Int), .int .i64 s.a, .int .i64 s.b])] (by kernel_rfl) (unhide HBU) ?_
  go_simp
  go_upto_region 4 with (refine wpList_store_rowB rfl 51 (.tmp 7) (.tmp 15) rfl W2.heap.size (spA s) rfl rfl 51 _ (heap_alloc_new W2 _) (sizeSp hfr) (by rw [spA_size hfr]; rfl) (spA_one _) w.heap.size w ((unhide HB2).alloc (unhide HB2).size _) (unhide HB2).size (fun W4 hS hB4 => ?_))
  have HS : Hid (SpAt W4 W2.heap.size s) := hide hS
  have HB4 := hide hB4
  clear hS hB4

  obtain ⟨g, HGE⟩ : ∃ g, Hid (W2.heap.size = g) := ⟨_, hide rfl⟩
  rw [unhide HGE] at HS ⊢
  clear HB2 HGE HC2 HI2 HBU
  have HOK := hide (unhide HOKF W4 (unhide HB4) (unhide HCAN))
  go_wp2_with (refine wpList_load_rowG (by kernel_rfl) 51 (.tmp 7) rfl g rfl 51 (spA s) (0, 0) _ (unhide HS) Tryz.underlying51 rfl (sizeSp (unhide HOK).fr) ?_)
  refine (unknown_any s W4 (unhide HOK)).mono ?_
  rintro e W5 ⟨rfl, hB5⟩
  have HB5 := hide ((unhide HB4).trans (hB5.mono (unhide HB4).size))
  have HS5 := hide ((unhide HS).below hB5 (unhide HS).lt)
  have HOK5 := hide ((unhide HOK).below hB5)
  clear hB5 HB4 HS HOK W4
  by_cases hu : unkD s = 0
  rotate_left
  · have HC0 : Hid (cntD s = (0, 0, unkD s)) := hide (by unfold cntD; rw [if_neg (by rw [unhide HCAN]; decide), if_pos hu])
    have b1 : (unkD s != 0) = true := bne_t hu
    clear hu
    go_wp2
    go_ret3
    exact unhide HE _ (unhide HC0) _ (unhide HB5)
  obtain ⟨n, m, v, hR⟩ := rule_of s hu
  have HC0 : Hid (cntD s = ((tkD s).length, (gvD s (tkD s)).length, 0)) := hide (by unfold cntD; rw [if_neg (by rw [unhide HCAN]; decide), if_neg (by omega)])
  rw [hu]
  clear hu
  have HR := hide hR
  clear hR
  have f0 := run_rule_f0
  have f1 := run_rule_f1
  go_upto_region 7 with fail
  have HBd : Hid (Below w.heap.size w W5.drew) := hide (belowD (unhide HB5) 1)
  have HSd : Hid (SpAt W5.drew g s) := hide (unhide HS5)
  have HOKd : Hid (SpOk W5.drew s) := hide ((unhide HOK5).below (belowD (Below.refl _ _) 1))
  refine wp_region_held_drew (S := fun w' => SpAt w' g s) (by kernel_rfl) (unhide HS5) (fun hS => ?_)
  clear HB5 HS5 HOK5
  generalize W5.drew = Wd at HBd HSd HOKd hS ⊢
  refine wpAnyH_take (i := 0) (v := .agg (spA s)) rfl (by kernel_rfl) (by kernel_rfl) (by kernel_rfl) (fun _ _ _ h => h) (yieldsIf_load_mid (by rfl) 51 _ rfl g 0 rfl (spL s) _ (fun _ h => SpAt.all h) Tryz.underlying51 rfl (by rw [show (spL s).length = 33 from by have := spA_size hfr; simpa [spA] using this]; kernel_rfl)) hS ?_
  refine wpAnyH_take (i := 3) (v := .agg (spA s)) rfl (by kernel_rfl) (by kernel_rfl) (by kernel_rfl) (fun _ _ _ h => h) (yieldsIf_load_mid (by rfl) 51 _ rfl g 0 rfl (spL s) _ (fun _ h => SpAt.all h) Tryz.underlying51 rfl (by rw [show (spL s).length = 33 from by have := spA_size hfr; simpa [spA] using this]; kernel_rfl)) hS ?_
  refine wpAnyH_ready (rs := [1]) (by kernel_rfl) (by simp) ?_
  refine AllReadyH.cons rfl (fun K hK => ?_) AllReadyH.nil
  go_simp
  go_wp2_with (go_at_call 33; refine ((unhide HR).rule Wd hfr).mono ?_; rintro e W2 ⟨rfl, hB2⟩)
  have HB2 := hide ((unhide HBd).trans (hB2.mono (unhide HBd).size))
  have HS2 := hide ((unhide HSd).below hB2 (unhide HSd).lt)
  have HOK2 := hide ((unhide HOKd).below hB2)
  refine hK.out _ _ (unhide HS2) (fun hS2 => ?_)
  clear hK K hS hB2 HBd HSd HOKd
  refine wpAnyH_ready (rs := [2]) (by kernel_rfl) (by simp) ?_
  refine AllReadyH.cons rfl (fun K hK => ?_) AllReadyH.nil
  go_simp
  refine hK.out _ _ hS2 (fun hS2 => ?_)
  clear hK K
  refine wpAnyH_ready (rs := [4]) (by kernel_rfl) (by simp) ?_
  refine AllReadyH.cons rfl (fun K hK => ?_) AllReadyH.nil
  go_simp
  rw [(unhide HR).entT]
  refine ((unhide HR).takes W2 (unhide HOK2)).mono ?_
  rintro e W3 ⟨⟨ga, gc, rfl, hP⟩, hB3⟩
  have HB3 := hide ((unhide HB2).trans (hB3.mono (unhide HB2).size))
  have HS3 := hide ((unhide HS2).below hB3 (unhide HS2).lt)
  have HOK3 := hide ((unhide HOK2).below hB3)
  have HP := hide hP
  refine hK.out _ _ (unhide HS3) (fun hS3 => ?_)
  clear hK K hS2 hB3 HB2 HS2 HOK2 hP
  refine wpAnyH_ready (rs := [5]) (by kernel_rfl) (by simp) ?_
  refine AllReadyH.cons rfl (fun K hK => ?_) AllReadyH.nil
  go_simp
  refine hK.out _ _ hS3 (fun hS3 => ?_)
  clear hK K
  refine wpAnyH_done (by kernel_rfl) ?_ _
  clear hS3
  obtain ⟨tn, HTN⟩ : ∃ tn, Hid ((tkD s).length = tn) := ⟨_, hide rfl⟩
  rw [unhide HTN] at HC0 ⊢
  go_upto_region 8 with fail
  have HBd : Hid (Below w.heap.size w W3.drew) := hide (belowD (unhide HB3) 1)
  have HSd : Hid (SpAt W3.drew g s) := hide (unhide HS3)
  have HOKd : Hid (SpOk W3.drew s) := hide ((unhide HOK3).below (belowD (Below.refl _ _) 1))
  have HPd : Hid (PAt W3.drew ga (tkD s)) := hide ((unhide HP).below (belowD (Below.refl _ _) 1))
  refine wp_region_held_drew (S := fun w' => SpAt w' g s) (by kernel_rfl) (unhide HS3) (fun hS => ?_)
  clear HB3 HS3 HOK3 HP
  generalize W3.drew = Wd at HBd HSd HOKd HPd hS ⊢
  refine wpAnyH_take (i := 0) (v := .slice ga tn gc) rfl (by kernel_rfl) (by kernel_rfl) (by kernel_rfl) (fun _ _ _ h => h) (Or.inl ⟨by rfl, fun W h => by go_simp⟩) hS ?_
  refine wpAnyH_take (i := 1) (v := .int .i64 (tn : Int)) rfl (by kernel_rfl) (by kernel_rfl) (by kernel_rfl) (fun _ _ _ h => h) (Or.inl ⟨by rfl, fun W h => by go_simp⟩) hS ?_
  refine wpAnyH_take (i := 2) (v := .agg (spA s)) rfl (by kernel_rfl) (by kernel_rfl) (by kernel_rfl) (fun _ _ _ h => h) (yieldsIf_load_mid (by rfl) 51 _ rfl g 0 rfl (spL s) _ (fun _ h => SpAt.all h) Tryz.underlying51 rfl (by rw [show (spL s).length = 33 from by have := spA_size hfr; simpa [spA] using this]; kernel_rfl)) hS ?_
  refine wpAnyH_take (i := 5) (v := .agg (spA s)) rfl (by kernel_rfl) (by kernel_rfl) (by kernel_rfl) (fun _ _ _ h => h) (yieldsIf_load_mid (by rfl) 51 _ rfl g 0 rfl (spL s) _ (fun _ h => SpAt.all h) Tryz.underlying51 rfl (by rw [show (spL s).length = 33 from by have := spA_size hfr; simpa [spA] using this]; kernel_rfl)) hS ?_
  refine wpAnyH_take (i := 6) (v := .slice ga tn gc) rfl (by kernel_rfl) (by kernel_rfl) (by kernel_rfl) (fun _ _ _ h => h) (Or.inl ⟨by rfl, fun W h => by go_simp⟩) hS ?_
  refine wpAnyH_ready (rs := [3]) (by kernel_rfl) (by simp) ?_
  refine AllReadyH.cons rfl (fun K hK => ?_) AllReadyH.nil
  go_simp
  go_wp2_with (go_at_call 33; refine ((unhide HR).rule Wd hfr).mono ?_; rintro e W2 ⟨rfl, hB2⟩)
  have HB2 := hide ((unhide HBd).trans (hB2.mono (unhide HBd).size))
  have HS2 := hide ((unhide HSd).below hB2 (unhide HSd).lt)
  have HOK2 := hide ((unhide HOKd).below hB2)
  have HP2 := hide ((unhide HPd).below hB2)
  refine hK.out _ _ (unhide HS2) (fun hS2 => ?_)
  clear hK K hS hB2 HBd HSd HOKd HPd
  refine wpAnyH_ready (rs := [4]) (by kernel_rfl) (by simp) ?_
  refine AllReadyH.cons rfl (fun K hK => ?_) AllReadyH.nil
  go_simp
  refine hK.out _ _ hS2 (fun hS2 => ?_)
  clear hK K
  refine wpAnyH_ready (rs := [7]) (by kernel_rfl) (by simp) ?_
  refine AllReadyH.cons rfl (fun K hK => ?_) AllReadyH.nil
  go_simp
  rw [(unhide HR).entG]
  have HGV := hide ((unhide HR).gives W2 (tkD s) ga gc (unhide HOK2) (unhide HP2) rfl)
  rw [unhide HTN] at HGV
  refine (unhide HGV).mono ?_
  rintro e W3 ⟨⟨ha, hc, rfl, -⟩, hB3⟩
  have HB3 := hide ((unhide HB2).trans (hB3.mono (unhide HB2).size))
  have HS3 := hide ((unhide HS2).below hB3 (unhide HS2).lt)
  refine hK.out _ _ (unhide HS3) (fun hS3 => ?_)
  clear hK K hS2 hB3 HB2 HS2 HOK2 HP2 HGV
  obtain ⟨gn, HGN⟩ : ∃ gn, Hid ((gvD s (tkD s)).length = gn) := ⟨_, hide rfl⟩
  rw [unhide HGN] at HC0 ⊢
  refine wpAnyH_take (i := 8) (v := .int .i64 (gn : Int)) rfl (by kernel_rfl) (by kernel_rfl) (by kernel_rfl) (fun _ _ _ h => h) (Or.inl ⟨by rfl, fun W h => by go_simp⟩) hS3 ?_
  refine wpAnyH_take (i := 9) (v := .int .i64 (tn : Int)) rfl (by kernel_rfl) (by kernel_rfl) (by kernel_rfl) (fun _ _ _ h => h) (Or.inl ⟨by rfl, fun W h => by go_simp⟩) hS3 ?_
  refine wpAnyH_take (i := 10) (v := .int .i64 (gn : Int)) rfl (by kernel_rfl) (by kernel_rfl) (by kernel_rfl) (fun _ _ _ h => h) (Or.inl ⟨by rfl, fun W h => by go_simp⟩) hS3 ?_
  refine wpAnyH_take (i := 11) (v := .int .i64 0) rfl (by kernel_rfl) (by kernel_rfl) (by kernel_rfl) (fun _ _ _ h => h) (Or.inl ⟨by rfl, fun W h => by go_simp⟩) hS3 ?_
  refine wpAnyH_done (by kernel_rfl) ?_ _
  go_wp2
  go_ret3
  exact unhide HE _ (unhide HC0) _ (unhide HB3)
end Go.Proofs.YtkodmpcnndbngaaGreatDoor

/-
  provisoref07's Operands, Takes, Gives: as the plain functions say; nothing old is turned.
-/
namespace Go.Proofs.YtkodmpcnndbngaaGreatDoor
open Go.RowKit
set_option maxRecDepth 20000

/-- What the document's Takes tells of an instruction. -/
def tkR (s : Sp) (op : Nat) : List Nat :=
  match op with
  | 5 => [254]
  | 6 => [255]
  | 7 => [255]
  | 8 => [255, 255]
  | 16 => [255, 255]
  | 18 => [253, 253]
  | 30 => [253]
  | 31 => [253]
  | n => tkO s n
/-- What the document's Gives tells of it. -/
def gvR (s : Sp) (op : Nat) : List Nat :=
  match op with
  | 4 => [255]
  | 7 => [255, 255]
  | 8 => [255, 255]
  | 24 => rtD (fldT s.T s.a s.b)
  | n => gvO s [] n

theorem some_any (rt : Nat) (w : World) : Calls Tryz.prog 65 #[.int .u8 (rt : Int)] w (Row w (rtD rt)) := by
  by_cases h0 : rt = 0
  · have b1 : (((rt : Nat) : Int) == 0) = true := beq_t (by omega)
    have HE : Hid (rtD rt = []) := hide (by unfold rtD; rw [if_pos h0])
    clear h0
    go_enter Tryz.func65, Tryz.ntmps65
    go_wp2
    go_ret
    rw [unhide HE]
    exact ⟨⟨_, _, rfl, pAt_nil _ _⟩, Below.refl _ _⟩
  · have b1 : (((rt : Nat) : Int) == 0) = false := beq_f (by omega)
    have HE : Hid (rtD rt = [rt]) := hide (by unfold rtD; rw [if_neg h0])
    clear h0
    go_enter Tryz.func65, Tryz.ntmps65
    go_wp2
    go_ret
    rw [unhide HE]
    exact ⟨⟨_, _, rfl, pAt_lit w [rt] _⟩, (Below.refl _ _).alloc (Nat.le_refl _) _⟩
theorem rclass_any (c q : Nat) (hlt : c < 240) (hq : q = 16 + c) (w : World) : Calls Tryz.prog 66 #[.int .i64 (c : Int)] w fun e w' => e = .returned (.int .u8 (q : Int)) ∧ w' = w := by
  have HQ := hide hq
  clear hq
  go_enter Tryz.func66, Tryz.ntmps66
  go_wp2
  go_ret
  exact ⟨ret_int (by have := unhide HQ; omega), rfl⟩

/-- Both boxes of an environment and an instruction. -/
structure Bxs (w W : World) (s : Sp) (op : Nat) : Prop where
  e0 : W.cell? ⟨w.heap.size, 0, none⟩ = some (.slice s.ao s.T.length s.cap)
  e1 : W.cell? ⟨w.heap.size, 1, none⟩ = some (.slice s.so s.L.length s.sc)
  e2 : W.cell? ⟨w.heap.size, 2, none⟩ = some (.int .i64 s.fn)
  i0 : W.cell? ⟨w.heap.size + 1, 0, none⟩ = some (.int .i64 s.p)
  i1 : W.cell? ⟨w.heap.size + 1, 1, none⟩ = some (.int .u8 (op : Int))
  i2 : W.cell? ⟨w.heap.size + 1, 2, none⟩ = some (.int .i64 s.a)
  i3 : W.cell? ⟨w.heap.size + 1, 3, none⟩ = some (.int .i64 s.b)
  lt : w.heap.size + 1 < W.heap.size
  bel : Below w.heap.size w W
theorem Bxs.new (w : World) (s : Sp) (op : Nat) : Bxs w ((w.alloc (.cells #[.slice s.ao s.T.length s.cap, .slice s.so s.L.length s.sc, .int .i64 s.fn] 25)).alloc (.cells #[.int .i64 s.p, .int .u8 (op : Int), .int .i64 s.a, .int .i64 s.b] 31)) s op := by
  have al1 := (Below.refl w.heap.size w).alloc (Nat.le_refl _) (.cells #[.slice s.ao s.T.length s.cap, .slice s.so s.L.length s.sc, .int .i64 s.fn] 25)
  have al := al1.alloc (by simp) (.cells #[.int .i64 s.p, .int .u8 (op : Int), .int .i64 s.a, .int .i64 s.b] 31)
  have n1 := heap_alloc_new w (.cells #[.slice s.ao s.T.length s.cap, .slice s.so s.L.length s.sc, .int .i64 s.fn] 25)
  have n2 := heap_alloc_new (w.alloc (.cells #[.slice s.ao s.T.length s.cap, .slice s.so s.L.length s.sc, .int .i64 s.fn] 25)) (.cells #[.int .i64 s.p, .int .u8 (op : Int), .int .i64 s.a, .int .i64 s.b] 31)
  rw [World.size_alloc] at n2
  have m1 := (((Below.refl _ (w.alloc (.cells #[.slice s.ao s.T.length s.cap, .slice s.so s.L.length s.sc, .int .i64 s.fn] 25))).alloc (Nat.le_refl _) (.cells #[.int .i64 s.p, .int .u8 (op : Int), .int .i64 s.a, .int .i64 s.b] 31)).block w.heap.size (by simp)).trans n1
  exact ⟨by rw [cell_of_row _ _ _ _ _ _ m1]; rfl, by rw [cell_of_row _ _ _ _ _ _ m1]; rfl, by rw [cell_of_row _ _ _ _ _ _ m1]; rfl, by rw [cell_of_row _ _ _ _ _ _ n2]; rfl, by rw [cell_of_row _ _ _ _ _ _ n2]; rfl, by rw [cell_of_row _ _ _ _ _ _ n2]; rfl, by rw [cell_of_row _ _ _ _ _ _ n2]; rfl, by simp, al⟩
theorem Bxs.below {w W W' : World} {s : Sp} {op : Nat} (h : Bxs w W s op) (hb : Below W.heap.size W W') : Bxs w W' s op := by
  have hl := h.lt
  exact ⟨(hb.cell (p := ⟨w.heap.size, 0, none⟩) (show w.heap.size < _ by omega)).trans h.e0, (hb.cell (p := ⟨w.heap.size, 1, none⟩) (show w.heap.size < _ by omega)).trans h.e1, (hb.cell (p := ⟨w.heap.size, 2, none⟩) (show w.heap.size < _ by omega)).trans h.e2, (hb.cell (p := ⟨w.heap.size + 1, 0, none⟩) hl).trans h.i0, (hb.cell (p := ⟨w.heap.size + 1, 1, none⟩) hl).trans h.i1, (hb.cell (p := ⟨w.heap.size + 1, 2, none⟩) hl).trans h.i2, (hb.cell (p := ⟨w.heap.size + 1, 3, none⟩) hl).trans h.i3, by have := hb.size; omega, h.bel.trans (hb.mono h.bel.size)⟩
theorem refFieldsF {s : Sp} {W : World} (hT : TabAt W s.ao s.T) (hz : s.T.length * 48 ≤ 140737488351232) (hm : madeD s.T = true) : Calls Tryz.prog 41 #[.slice s.ao s.T.length s.cap, .int .i64 s.a] W fun e w' => ∃ fa fc, e = .returned (.slice fa (fieldsB s.T s.a).length fc) ∧ FsAt w' fa (fieldsB s.T s.a) ∧ Below W.heap.size W w' := by
  refine (refFields_any s.ao s.cap s.T s.a W hT hz (by rw [fields_all hm]; have := fields_len hm s.a; omega)).mono ?_
  rintro e W2 ⟨v, rfl, hO, hB2⟩
  rw [fields_all hm] at hO
  obtain ⟨fa, fc, rfl, hF, -, -⟩ := hO.at (fieldsB_ok hT s.a)
  exact ⟨fa, fc, rfl, hF, hB2⟩

theorem rtk_0 (s : Sp) (w : World) : Calls Tryz.prog 42 #[.agg #[.slice s.ao s.T.length s.cap, .slice s.so s.L.length s.sc, .int .i64 s.fn], .agg #[.int .i64 s.p, .int .u8 0, .int .i64 s.a, .int .i64 s.b]] w (Row w (tkR s 0)) := by
    have HX := hide (Bxs.new w s 0)
    go_enter Tryz.func42, Tryz.ntmps42
    go_upto_region 1 with fail
    generalize ((w.alloc (.cells #[.slice s.ao s.T.length s.cap, .slice s.so s.L.length s.sc, .int .i64 s.fn] 25)).alloc (.cells #[.int .i64 s.p, .int .u8 0, .int .i64 s.a, .int .i64 s.b] 31)) = W1 at HX ⊢
    have k0 := (unhide HX).i1
    go_wp2
    go_ret
    exact ⟨⟨_, _, rfl, pAt_nil _ _⟩, (unhide HX).bel⟩

theorem rtk_1 (s : Sp) (w : World) : Calls Tryz.prog 42 #[.agg #[.slice s.ao s.T.length s.cap, .slice s.so s.L.length s.sc, .int .i64 s.fn], .agg #[.int .i64 s.p, .int .u8 1, .int .i64 s.a, .int .i64 s.b]] w (Row w (tkR s 1)) := by
    have HX := hide (Bxs.new w s 1)
    go_enter Tryz.func42, Tryz.ntmps42
    go_upto_region 1 with fail
    generalize ((w.alloc (.cells #[.slice s.ao s.T.length s.cap, .slice s.so s.L.length s.sc, .int .i64 s.fn] 25)).alloc (.cells #[.int .i64 s.p, .int .u8 1, .int .i64 s.a, .int .i64 s.b] 31)) = W1 at HX ⊢
    have k0 := (unhide HX).i1
    go_wp2
    go_ret
    exact ⟨⟨_, _, rfl, pAt_nil _ _⟩, (unhide HX).bel⟩

theorem rtk_2 (s : Sp) (w : World) : Calls Tryz.prog 42 #[.agg #[.slice s.ao s.T.length s.cap, .slice s.so s.L.length s.sc, .int .i64 s.fn], .agg #[.int .i64 s.p, .int .u8 2, .int .i64 s.a, .int .i64 s.b]] w (Row w (tkR s 2)) := by
    have HX := hide (Bxs.new w s 2)
    go_enter Tryz.func42, Tryz.ntmps42
    go_upto_region 1 with fail
    generalize ((w.alloc (.cells #[.slice s.ao s.T.length s.cap, .slice s.so s.L.length s.sc, .int .i64 s.fn] 25)).alloc (.cells #[.int .i64 s.p, .int .u8 2, .int .i64 s.a, .int .i64 s.b] 31)) = W1 at HX ⊢
    have k0 := (unhide HX).i1
    go_wp2
    go_ret
    exact ⟨⟨_, _, rfl, pAt_nil _ _⟩, (unhide HX).bel⟩

theorem rtk_3 (s : Sp) (w : World) : Calls Tryz.prog 42 #[.agg #[.slice s.ao s.T.length s.cap, .slice s.so s.L.length s.sc, .int .i64 s.fn], .agg #[.int .i64 s.p, .int .u8 3, .int .i64 s.a, .int .i64 s.b]] w (Row w (tkR s 3)) := by
    have HX := hide (Bxs.new w s 3)
    go_enter Tryz.func42, Tryz.ntmps42
    go_upto_region 1 with fail
    generalize ((w.alloc (.cells #[.slice s.ao s.T.length s.cap, .slice s.so s.L.length s.sc, .int .i64 s.fn] 25)).alloc (.cells #[.int .i64 s.p, .int .u8 3, .int .i64 s.a, .int .i64 s.b] 31)) = W1 at HX ⊢
    have k0 := (unhide HX).i1
    go_wp2
    go_ret
    exact ⟨⟨_, _, rfl, pAt_nil _ _⟩, (unhide HX).bel⟩

theorem rtk_4 (s : Sp) (w : World) : Calls Tryz.prog 42 #[.agg #[.slice s.ao s.T.length s.cap, .slice s.so s.L.length s.sc, .int .i64 s.fn], .agg #[.int .i64 s.p, .int .u8 4, .int .i64 s.a, .int .i64 s.b]] w (Row w (tkR s 4)) := by
    have HX := hide (Bxs.new w s 4)
    go_enter Tryz.func42, Tryz.ntmps42
    go_upto_region 1 with fail
    generalize ((w.alloc (.cells #[.slice s.ao s.T.length s.cap, .slice s.so s.L.length s.sc, .int .i64 s.fn] 25)).alloc (.cells #[.int .i64 s.p, .int .u8 4, .int .i64 s.a, .int .i64 s.b] 31)) = W1 at HX ⊢
    have k0 := (unhide HX).i1
    go_wp2
    go_ret
    exact ⟨⟨_, _, rfl, pAt_nil _ _⟩, (unhide HX).bel⟩

theorem rtk_5 (s : Sp) (w : World) : Calls Tryz.prog 42 #[.agg #[.slice s.ao s.T.length s.cap, .slice s.so s.L.length s.sc, .int .i64 s.fn], .agg #[.int .i64 s.p, .int .u8 5, .int .i64 s.a, .int .i64 s.b]] w (Row w (tkR s 5)) := by
    have HX := hide (Bxs.new w s 5)
    go_enter Tryz.func42, Tryz.ntmps42
    go_upto_region 1 with fail
    generalize ((w.alloc (.cells #[.slice s.ao s.T.length s.cap, .slice s.so s.L.length s.sc, .int .i64 s.fn] 25)).alloc (.cells #[.int .i64 s.p, .int .u8 5, .int .i64 s.a, .int .i64 s.b] 31)) = W1 at HX ⊢
    have k0 := (unhide HX).i1
    go_wp2
    go_ret
    exact ⟨⟨_, _, rfl, pAt_lit W1 [254] _⟩, (unhide HX).bel.alloc (unhide HX).bel.size _⟩

theorem rtk_6 (s : Sp) (w : World) : Calls Tryz.prog 42 #[.agg #[.slice s.ao s.T.length s.cap, .slice s.so s.L.length s.sc, .int .i64 s.fn], .agg #[.int .i64 s.p, .int .u8 6, .int .i64 s.a, .int .i64 s.b]] w (Row w (tkR s 6)) := by
    have HX := hide (Bxs.new w s 6)
    go_enter Tryz.func42, Tryz.ntmps42
    go_upto_region 1 with fail
    generalize ((w.alloc (.cells #[.slice s.ao s.T.length s.cap, .slice s.so s.L.length s.sc, .int .i64 s.fn] 25)).alloc (.cells #[.int .i64 s.p, .int .u8 6, .int .i64 s.a, .int .i64 s.b] 31)) = W1 at HX ⊢
    have k0 := (unhide HX).i1
    go_wp2
    go_ret
    exact ⟨⟨_, _, rfl, pAt_lit W1 [255] _⟩, (unhide HX).bel.alloc (unhide HX).bel.size _⟩

theorem rtk_7 (s : Sp) (w : World) : Calls Tryz.prog 42 #[.agg #[.slice s.ao s.T.length s.cap, .slice s.so s.L.length s.sc, .int .i64 s.fn], .agg #[.int .i64 s.p, .int .u8 7, .int .i64 s.a, .int .i64 s.b]] w (Row w (tkR s 7)) := by
    have HX := hide (Bxs.new w s 7)
    go_enter Tryz.func42, Tryz.ntmps42
    go_upto_region 1 with fail
    generalize ((w.alloc (.cells #[.slice s.ao s.T.length s.cap, .slice s.so s.L.length s.sc, .int .i64 s.fn] 25)).alloc (.cells #[.int .i64 s.p, .int .u8 7, .int .i64 s.a, .int .i64 s.b] 31)) = W1 at HX ⊢
    have k0 := (unhide HX).i1
    go_wp2
    go_ret
    exact ⟨⟨_, _, rfl, pAt_lit W1 [255] _⟩, (unhide HX).bel.alloc (unhide HX).bel.size _⟩

theorem rtk_8 (s : Sp) (w : World) : Calls Tryz.prog 42 #[.agg #[.slice s.ao s.T.length s.cap, .slice s.so s.L.length s.sc, .int .i64 s.fn], .agg #[.int .i64 s.p, .int .u8 8, .int .i64 s.a, .int .i64 s.b]] w (Row w (tkR s 8)) := by
    have HX := hide (Bxs.new w s 8)
    go_enter Tryz.func42, Tryz.ntmps42
    go_upto_region 1 with fail
    generalize ((w.alloc (.cells #[.slice s.ao s.T.length s.cap, .slice s.so s.L.length s.sc, .int .i64 s.fn] 25)).alloc (.cells #[.int .i64 s.p, .int .u8 8, .int .i64 s.a, .int .i64 s.b] 31)) = W1 at HX ⊢
    have k0 := (unhide HX).i1
    go_wp2
    go_ret
    exact ⟨⟨_, _, rfl, pAt_lit W1 [255, 255] _⟩, (unhide HX).bel.alloc (unhide HX).bel.size _⟩

theorem rtk_9 (s : Sp) (w : World) : Calls Tryz.prog 42 #[.agg #[.slice s.ao s.T.length s.cap, .slice s.so s.L.length s.sc, .int .i64 s.fn], .agg #[.int .i64 s.p, .int .u8 9, .int .i64 s.a, .int .i64 s.b]] w (Row w (tkR s 9)) := by
    have HX := hide (Bxs.new w s 9)
    go_enter Tryz.func42, Tryz.ntmps42
    go_upto_region 1 with fail
    generalize ((w.alloc (.cells #[.slice s.ao s.T.length s.cap, .slice s.so s.L.length s.sc, .int .i64 s.fn] 25)).alloc (.cells #[.int .i64 s.p, .int .u8 9, .int .i64 s.a, .int .i64 s.b] 31)) = W1 at HX ⊢
    have k0 := (unhide HX).i1
    go_wp2
    go_ret
    exact ⟨⟨_, _, rfl, pAt_lit W1 [1, 1] _⟩, (unhide HX).bel.alloc (unhide HX).bel.size _⟩

theorem rtk_10 (s : Sp) (w : World) : Calls Tryz.prog 42 #[.agg #[.slice s.ao s.T.length s.cap, .slice s.so s.L.length s.sc, .int .i64 s.fn], .agg #[.int .i64 s.p, .int .u8 10, .int .i64 s.a, .int .i64 s.b]] w (Row w (tkR s 10)) := by
    have HX := hide (Bxs.new w s 10)
    go_enter Tryz.func42, Tryz.ntmps42
    go_upto_region 1 with fail
    generalize ((w.alloc (.cells #[.slice s.ao s.T.length s.cap, .slice s.so s.L.length s.sc, .int .i64 s.fn] 25)).alloc (.cells #[.int .i64 s.p, .int .u8 10, .int .i64 s.a, .int .i64 s.b] 31)) = W1 at HX ⊢
    have k0 := (unhide HX).i1
    go_wp2
    go_ret
    exact ⟨⟨_, _, rfl, pAt_lit W1 [1, 1] _⟩, (unhide HX).bel.alloc (unhide HX).bel.size _⟩

theorem rtk_11 (s : Sp) (w : World) : Calls Tryz.prog 42 #[.agg #[.slice s.ao s.T.length s.cap, .slice s.so s.L.length s.sc, .int .i64 s.fn], .agg #[.int .i64 s.p, .int .u8 11, .int .i64 s.a, .int .i64 s.b]] w (Row w (tkR s 11)) := by
    have HX := hide (Bxs.new w s 11)
    go_enter Tryz.func42, Tryz.ntmps42
    go_upto_region 1 with fail
    generalize ((w.alloc (.cells #[.slice s.ao s.T.length s.cap, .slice s.so s.L.length s.sc, .int .i64 s.fn] 25)).alloc (.cells #[.int .i64 s.p, .int .u8 11, .int .i64 s.a, .int .i64 s.b] 31)) = W1 at HX ⊢
    have k0 := (unhide HX).i1
    go_wp2
    go_ret
    exact ⟨⟨_, _, rfl, pAt_lit W1 [1, 1] _⟩, (unhide HX).bel.alloc (unhide HX).bel.size _⟩

theorem rtk_12 (s : Sp) (w : World) : Calls Tryz.prog 42 #[.agg #[.slice s.ao s.T.length s.cap, .slice s.so s.L.length s.sc, .int .i64 s.fn], .agg #[.int .i64 s.p, .int .u8 12, .int .i64 s.a, .int .i64 s.b]] w (Row w (tkR s 12)) := by
    have HX := hide (Bxs.new w s 12)
    go_enter Tryz.func42, Tryz.ntmps42
    go_upto_region 1 with fail
    generalize ((w.alloc (.cells #[.slice s.ao s.T.length s.cap, .slice s.so s.L.length s.sc, .int .i64 s.fn] 25)).alloc (.cells #[.int .i64 s.p, .int .u8 12, .int .i64 s.a, .int .i64 s.b] 31)) = W1 at HX ⊢
    have k0 := (unhide HX).i1
    go_wp2
    go_ret
    exact ⟨⟨_, _, rfl, pAt_lit W1 [1, 1] _⟩, (unhide HX).bel.alloc (unhide HX).bel.size _⟩

theorem rtk_13 (s : Sp) (w : World) : Calls Tryz.prog 42 #[.agg #[.slice s.ao s.T.length s.cap, .slice s.so s.L.length s.sc, .int .i64 s.fn], .agg #[.int .i64 s.p, .int .u8 13, .int .i64 s.a, .int .i64 s.b]] w (Row w (tkR s 13)) := by
    have HX := hide (Bxs.new w s 13)
    go_enter Tryz.func42, Tryz.ntmps42
    go_upto_region 1 with fail
    generalize ((w.alloc (.cells #[.slice s.ao s.T.length s.cap, .slice s.so s.L.length s.sc, .int .i64 s.fn] 25)).alloc (.cells #[.int .i64 s.p, .int .u8 13, .int .i64 s.a, .int .i64 s.b] 31)) = W1 at HX ⊢
    have k0 := (unhide HX).i1
    go_wp2
    go_ret
    exact ⟨⟨_, _, rfl, pAt_lit W1 [1, 1] _⟩, (unhide HX).bel.alloc (unhide HX).bel.size _⟩

theorem rtk_14 (s : Sp) (w : World) : Calls Tryz.prog 42 #[.agg #[.slice s.ao s.T.length s.cap, .slice s.so s.L.length s.sc, .int .i64 s.fn], .agg #[.int .i64 s.p, .int .u8 14, .int .i64 s.a, .int .i64 s.b]] w (Row w (tkR s 14)) := by
    have HX := hide (Bxs.new w s 14)
    go_enter Tryz.func42, Tryz.ntmps42
    go_upto_region 1 with fail
    generalize ((w.alloc (.cells #[.slice s.ao s.T.length s.cap, .slice s.so s.L.length s.sc, .int .i64 s.fn] 25)).alloc (.cells #[.int .i64 s.p, .int .u8 14, .int .i64 s.a, .int .i64 s.b] 31)) = W1 at HX ⊢
    have k0 := (unhide HX).i1
    go_wp2
    go_ret
    exact ⟨⟨_, _, rfl, pAt_lit W1 [1] _⟩, (unhide HX).bel.alloc (unhide HX).bel.size _⟩

theorem rtk_15 (s : Sp) (w : World) : Calls Tryz.prog 42 #[.agg #[.slice s.ao s.T.length s.cap, .slice s.so s.L.length s.sc, .int .i64 s.fn], .agg #[.int .i64 s.p, .int .u8 15, .int .i64 s.a, .int .i64 s.b]] w (Row w (tkR s 15)) := by
    have HX := hide (Bxs.new w s 15)
    go_enter Tryz.func42, Tryz.ntmps42
    go_upto_region 1 with fail
    generalize ((w.alloc (.cells #[.slice s.ao s.T.length s.cap, .slice s.so s.L.length s.sc, .int .i64 s.fn] 25)).alloc (.cells #[.int .i64 s.p, .int .u8 15, .int .i64 s.a, .int .i64 s.b] 31)) = W1 at HX ⊢
    have k0 := (unhide HX).i1
    go_wp2
    go_ret
    exact ⟨⟨_, _, rfl, pAt_lit W1 [1, 1] _⟩, (unhide HX).bel.alloc (unhide HX).bel.size _⟩

theorem rtk_16 (s : Sp) (w : World) : Calls Tryz.prog 42 #[.agg #[.slice s.ao s.T.length s.cap, .slice s.so s.L.length s.sc, .int .i64 s.fn], .agg #[.int .i64 s.p, .int .u8 16, .int .i64 s.a, .int .i64 s.b]] w (Row w (tkR s 16)) := by
    have HX := hide (Bxs.new w s 16)
    go_enter Tryz.func42, Tryz.ntmps42
    go_upto_region 1 with fail
    generalize ((w.alloc (.cells #[.slice s.ao s.T.length s.cap, .slice s.so s.L.length s.sc, .int .i64 s.fn] 25)).alloc (.cells #[.int .i64 s.p, .int .u8 16, .int .i64 s.a, .int .i64 s.b] 31)) = W1 at HX ⊢
    have k0 := (unhide HX).i1
    go_wp2
    go_ret
    exact ⟨⟨_, _, rfl, pAt_lit W1 [255, 255] _⟩, (unhide HX).bel.alloc (unhide HX).bel.size _⟩

theorem rtk_17 (s : Sp) (w : World) : Calls Tryz.prog 42 #[.agg #[.slice s.ao s.T.length s.cap, .slice s.so s.L.length s.sc, .int .i64 s.fn], .agg #[.int .i64 s.p, .int .u8 17, .int .i64 s.a, .int .i64 s.b]] w (Row w (tkR s 17)) := by
    have HX := hide (Bxs.new w s 17)
    go_enter Tryz.func42, Tryz.ntmps42
    go_upto_region 1 with fail
    generalize ((w.alloc (.cells #[.slice s.ao s.T.length s.cap, .slice s.so s.L.length s.sc, .int .i64 s.fn] 25)).alloc (.cells #[.int .i64 s.p, .int .u8 17, .int .i64 s.a, .int .i64 s.b] 31)) = W1 at HX ⊢
    have k0 := (unhide HX).i1
    go_wp2
    go_ret
    exact ⟨⟨_, _, rfl, pAt_lit W1 [2] _⟩, (unhide HX).bel.alloc (unhide HX).bel.size _⟩

theorem rtk_18 (s : Sp) (w : World) : Calls Tryz.prog 42 #[.agg #[.slice s.ao s.T.length s.cap, .slice s.so s.L.length s.sc, .int .i64 s.fn], .agg #[.int .i64 s.p, .int .u8 18, .int .i64 s.a, .int .i64 s.b]] w (Row w (tkR s 18)) := by
    have HX := hide (Bxs.new w s 18)
    go_enter Tryz.func42, Tryz.ntmps42
    go_upto_region 1 with fail
    generalize ((w.alloc (.cells #[.slice s.ao s.T.length s.cap, .slice s.so s.L.length s.sc, .int .i64 s.fn] 25)).alloc (.cells #[.int .i64 s.p, .int .u8 18, .int .i64 s.a, .int .i64 s.b] 31)) = W1 at HX ⊢
    have k0 := (unhide HX).i1
    go_wp2
    go_ret
    exact ⟨⟨_, _, rfl, pAt_lit W1 [253, 253] _⟩, (unhide HX).bel.alloc (unhide HX).bel.size _⟩

theorem rtk_19 (s : Sp) (w : World) : Calls Tryz.prog 42 #[.agg #[.slice s.ao s.T.length s.cap, .slice s.so s.L.length s.sc, .int .i64 s.fn], .agg #[.int .i64 s.p, .int .u8 19, .int .i64 s.a, .int .i64 s.b]] w (Row w (tkR s 19)) := by
    have HX := hide (Bxs.new w s 19)
    go_enter Tryz.func42, Tryz.ntmps42
    go_upto_region 1 with fail
    generalize ((w.alloc (.cells #[.slice s.ao s.T.length s.cap, .slice s.so s.L.length s.sc, .int .i64 s.fn] 25)).alloc (.cells #[.int .i64 s.p, .int .u8 19, .int .i64 s.a, .int .i64 s.b] 31)) = W1 at HX ⊢
    have k0 := (unhide HX).i1
    go_wp2
    go_ret
    exact ⟨⟨_, _, rfl, pAt_nil _ _⟩, (unhide HX).bel⟩

theorem rtk_20 (s : Sp) (w : World) : Calls Tryz.prog 42 #[.agg #[.slice s.ao s.T.length s.cap, .slice s.so s.L.length s.sc, .int .i64 s.fn], .agg #[.int .i64 s.p, .int .u8 20, .int .i64 s.a, .int .i64 s.b]] w (Row w (tkR s 20)) := by
    have HX := hide (Bxs.new w s 20)
    go_enter Tryz.func42, Tryz.ntmps42
    go_upto_region 1 with fail
    generalize ((w.alloc (.cells #[.slice s.ao s.T.length s.cap, .slice s.so s.L.length s.sc, .int .i64 s.fn] 25)).alloc (.cells #[.int .i64 s.p, .int .u8 20, .int .i64 s.a, .int .i64 s.b] 31)) = W1 at HX ⊢
    have k0 := (unhide HX).i1
    go_wp2
    go_ret
    exact ⟨⟨_, _, rfl, pAt_lit W1 [2] _⟩, (unhide HX).bel.alloc (unhide HX).bel.size _⟩

theorem rtk_23 (s : Sp) (w : World) : Calls Tryz.prog 42 #[.agg #[.slice s.ao s.T.length s.cap, .slice s.so s.L.length s.sc, .int .i64 s.fn], .agg #[.int .i64 s.p, .int .u8 23, .int .i64 s.a, .int .i64 s.b]] w (Row w (tkR s 23)) := by
    have HX := hide (Bxs.new w s 23)
    go_enter Tryz.func42, Tryz.ntmps42
    go_upto_region 1 with fail
    generalize ((w.alloc (.cells #[.slice s.ao s.T.length s.cap, .slice s.so s.L.length s.sc, .int .i64 s.fn] 25)).alloc (.cells #[.int .i64 s.p, .int .u8 23, .int .i64 s.a, .int .i64 s.b] 31)) = W1 at HX ⊢
    have k0 := (unhide HX).i1
    go_wp2
    go_ret
    exact ⟨⟨_, _, rfl, pAt_nil _ _⟩, (unhide HX).bel⟩

theorem rtk_26 (s : Sp) (w : World) : Calls Tryz.prog 42 #[.agg #[.slice s.ao s.T.length s.cap, .slice s.so s.L.length s.sc, .int .i64 s.fn], .agg #[.int .i64 s.p, .int .u8 26, .int .i64 s.a, .int .i64 s.b]] w (Row w (tkR s 26)) := by
    have HX := hide (Bxs.new w s 26)
    go_enter Tryz.func42, Tryz.ntmps42
    go_upto_region 1 with fail
    generalize ((w.alloc (.cells #[.slice s.ao s.T.length s.cap, .slice s.so s.L.length s.sc, .int .i64 s.fn] 25)).alloc (.cells #[.int .i64 s.p, .int .u8 26, .int .i64 s.a, .int .i64 s.b] 31)) = W1 at HX ⊢
    have k0 := (unhide HX).i1
    go_wp2
    go_ret
    exact ⟨⟨_, _, rfl, pAt_lit W1 [1] _⟩, (unhide HX).bel.alloc (unhide HX).bel.size _⟩

theorem rtk_27 (s : Sp) (w : World) : Calls Tryz.prog 42 #[.agg #[.slice s.ao s.T.length s.cap, .slice s.so s.L.length s.sc, .int .i64 s.fn], .agg #[.int .i64 s.p, .int .u8 27, .int .i64 s.a, .int .i64 s.b]] w (Row w (tkR s 27)) := by
    have HX := hide (Bxs.new w s 27)
    go_enter Tryz.func42, Tryz.ntmps42
    go_upto_region 1 with fail
    generalize ((w.alloc (.cells #[.slice s.ao s.T.length s.cap, .slice s.so s.L.length s.sc, .int .i64 s.fn] 25)).alloc (.cells #[.int .i64 s.p, .int .u8 27, .int .i64 s.a, .int .i64 s.b] 31)) = W1 at HX ⊢
    have k0 := (unhide HX).i1
    go_wp2
    go_ret
    exact ⟨⟨_, _, rfl, pAt_lit W1 [4] _⟩, (unhide HX).bel.alloc (unhide HX).bel.size _⟩

theorem rtk_28 (s : Sp) (w : World) : Calls Tryz.prog 42 #[.agg #[.slice s.ao s.T.length s.cap, .slice s.so s.L.length s.sc, .int .i64 s.fn], .agg #[.int .i64 s.p, .int .u8 28, .int .i64 s.a, .int .i64 s.b]] w (Row w (tkR s 28)) := by
    have HX := hide (Bxs.new w s 28)
    go_enter Tryz.func42, Tryz.ntmps42
    go_upto_region 1 with fail
    generalize ((w.alloc (.cells #[.slice s.ao s.T.length s.cap, .slice s.so s.L.length s.sc, .int .i64 s.fn] 25)).alloc (.cells #[.int .i64 s.p, .int .u8 28, .int .i64 s.a, .int .i64 s.b] 31)) = W1 at HX ⊢
    have k0 := (unhide HX).i1
    go_wp2
    go_ret
    exact ⟨⟨_, _, rfl, pAt_lit W1 [4, 1] _⟩, (unhide HX).bel.alloc (unhide HX).bel.size _⟩

theorem rtk_29 (s : Sp) (w : World) : Calls Tryz.prog 42 #[.agg #[.slice s.ao s.T.length s.cap, .slice s.so s.L.length s.sc, .int .i64 s.fn], .agg #[.int .i64 s.p, .int .u8 29, .int .i64 s.a, .int .i64 s.b]] w (Row w (tkR s 29)) := by
    have HX := hide (Bxs.new w s 29)
    go_enter Tryz.func42, Tryz.ntmps42
    go_upto_region 1 with fail
    generalize ((w.alloc (.cells #[.slice s.ao s.T.length s.cap, .slice s.so s.L.length s.sc, .int .i64 s.fn] 25)).alloc (.cells #[.int .i64 s.p, .int .u8 29, .int .i64 s.a, .int .i64 s.b] 31)) = W1 at HX ⊢
    have k0 := (unhide HX).i1
    go_wp2
    go_ret
    exact ⟨⟨_, _, rfl, pAt_lit W1 [4, 1, 1] _⟩, (unhide HX).bel.alloc (unhide HX).bel.size _⟩

theorem rtk_30 (s : Sp) (w : World) : Calls Tryz.prog 42 #[.agg #[.slice s.ao s.T.length s.cap, .slice s.so s.L.length s.sc, .int .i64 s.fn], .agg #[.int .i64 s.p, .int .u8 30, .int .i64 s.a, .int .i64 s.b]] w (Row w (tkR s 30)) := by
    have HX := hide (Bxs.new w s 30)
    go_enter Tryz.func42, Tryz.ntmps42
    go_upto_region 1 with fail
    generalize ((w.alloc (.cells #[.slice s.ao s.T.length s.cap, .slice s.so s.L.length s.sc, .int .i64 s.fn] 25)).alloc (.cells #[.int .i64 s.p, .int .u8 30, .int .i64 s.a, .int .i64 s.b] 31)) = W1 at HX ⊢
    have k0 := (unhide HX).i1
    go_wp2
    go_ret
    exact ⟨⟨_, _, rfl, pAt_lit W1 [253] _⟩, (unhide HX).bel.alloc (unhide HX).bel.size _⟩

theorem rtk_31 (s : Sp) (w : World) : Calls Tryz.prog 42 #[.agg #[.slice s.ao s.T.length s.cap, .slice s.so s.L.length s.sc, .int .i64 s.fn], .agg #[.int .i64 s.p, .int .u8 31, .int .i64 s.a, .int .i64 s.b]] w (Row w (tkR s 31)) := by
    have HX := hide (Bxs.new w s 31)
    go_enter Tryz.func42, Tryz.ntmps42
    go_upto_region 1 with fail
    generalize ((w.alloc (.cells #[.slice s.ao s.T.length s.cap, .slice s.so s.L.length s.sc, .int .i64 s.fn] 25)).alloc (.cells #[.int .i64 s.p, .int .u8 31, .int .i64 s.a, .int .i64 s.b] 31)) = W1 at HX ⊢
    have k0 := (unhide HX).i1
    go_wp2
    go_ret
    exact ⟨⟨_, _, rfl, pAt_lit W1 [253] _⟩, (unhide HX).bel.alloc (unhide HX).bel.size _⟩

theorem rtk_32 (s : Sp) (w : World) : Calls Tryz.prog 42 #[.agg #[.slice s.ao s.T.length s.cap, .slice s.so s.L.length s.sc, .int .i64 s.fn], .agg #[.int .i64 s.p, .int .u8 32, .int .i64 s.a, .int .i64 s.b]] w (Row w (tkR s 32)) := by
    have HX := hide (Bxs.new w s 32)
    go_enter Tryz.func42, Tryz.ntmps42
    go_upto_region 1 with fail
    generalize ((w.alloc (.cells #[.slice s.ao s.T.length s.cap, .slice s.so s.L.length s.sc, .int .i64 s.fn] 25)).alloc (.cells #[.int .i64 s.p, .int .u8 32, .int .i64 s.a, .int .i64 s.b] 31)) = W1 at HX ⊢
    have k0 := (unhide HX).i1
    go_wp2
    go_ret
    exact ⟨⟨_, _, rfl, pAt_nil _ _⟩, (unhide HX).bel⟩

theorem rtk_33 (s : Sp) (w : World) : Calls Tryz.prog 42 #[.agg #[.slice s.ao s.T.length s.cap, .slice s.so s.L.length s.sc, .int .i64 s.fn], .agg #[.int .i64 s.p, .int .u8 33, .int .i64 s.a, .int .i64 s.b]] w (Row w (tkR s 33)) := by
    have HX := hide (Bxs.new w s 33)
    go_enter Tryz.func42, Tryz.ntmps42
    go_upto_region 1 with fail
    generalize ((w.alloc (.cells #[.slice s.ao s.T.length s.cap, .slice s.so s.L.length s.sc, .int .i64 s.fn] 25)).alloc (.cells #[.int .i64 s.p, .int .u8 33, .int .i64 s.a, .int .i64 s.b] 31)) = W1 at HX ⊢
    have k0 := (unhide HX).i1
    go_wp2
    go_ret
    exact ⟨⟨_, _, rfl, pAt_lit W1 [1] _⟩, (unhide HX).bel.alloc (unhide HX).bel.size _⟩

theorem rgv_0 (s : Sp) (w : World) : Calls Tryz.prog 44 #[.agg #[.slice s.ao s.T.length s.cap, .slice s.so s.L.length s.sc, .int .i64 s.fn], .agg #[.int .i64 s.p, .int .u8 0, .int .i64 s.a, .int .i64 s.b]] w (Row w (gvR s 0)) := by
    have HX := hide (Bxs.new w s 0)
    go_enter Tryz.func44, Tryz.ntmps44
    go_upto_region 1 with fail
    generalize ((w.alloc (.cells #[.slice s.ao s.T.length s.cap, .slice s.so s.L.length s.sc, .int .i64 s.fn] 25)).alloc (.cells #[.int .i64 s.p, .int .u8 0, .int .i64 s.a, .int .i64 s.b] 31)) = W1 at HX ⊢
    have k0 := (unhide HX).i1
    go_wp2
    go_ret
    exact ⟨⟨_, _, rfl, pAt_nil _ _⟩, (unhide HX).bel⟩

theorem rgv_1 (s : Sp) (w : World) : Calls Tryz.prog 44 #[.agg #[.slice s.ao s.T.length s.cap, .slice s.so s.L.length s.sc, .int .i64 s.fn], .agg #[.int .i64 s.p, .int .u8 1, .int .i64 s.a, .int .i64 s.b]] w (Row w (gvR s 1)) := by
    have HX := hide (Bxs.new w s 1)
    go_enter Tryz.func44, Tryz.ntmps44
    go_upto_region 1 with fail
    generalize ((w.alloc (.cells #[.slice s.ao s.T.length s.cap, .slice s.so s.L.length s.sc, .int .i64 s.fn] 25)).alloc (.cells #[.int .i64 s.p, .int .u8 1, .int .i64 s.a, .int .i64 s.b] 31)) = W1 at HX ⊢
    have k0 := (unhide HX).i1
    go_wp2
    go_ret
    exact ⟨⟨_, _, rfl, pAt_lit W1 [1] _⟩, (unhide HX).bel.alloc (unhide HX).bel.size _⟩

theorem rgv_2 (s : Sp) (w : World) : Calls Tryz.prog 44 #[.agg #[.slice s.ao s.T.length s.cap, .slice s.so s.L.length s.sc, .int .i64 s.fn], .agg #[.int .i64 s.p, .int .u8 2, .int .i64 s.a, .int .i64 s.b]] w (Row w (gvR s 2)) := by
    have HX := hide (Bxs.new w s 2)
    go_enter Tryz.func44, Tryz.ntmps44
    go_upto_region 1 with fail
    generalize ((w.alloc (.cells #[.slice s.ao s.T.length s.cap, .slice s.so s.L.length s.sc, .int .i64 s.fn] 25)).alloc (.cells #[.int .i64 s.p, .int .u8 2, .int .i64 s.a, .int .i64 s.b] 31)) = W1 at HX ⊢
    have k0 := (unhide HX).i1
    go_wp2
    go_ret
    exact ⟨⟨_, _, rfl, pAt_lit W1 [2] _⟩, (unhide HX).bel.alloc (unhide HX).bel.size _⟩

theorem rgv_3 (s : Sp) (w : World) : Calls Tryz.prog 44 #[.agg #[.slice s.ao s.T.length s.cap, .slice s.so s.L.length s.sc, .int .i64 s.fn], .agg #[.int .i64 s.p, .int .u8 3, .int .i64 s.a, .int .i64 s.b]] w (Row w (gvR s 3)) := by
    have HX := hide (Bxs.new w s 3)
    go_enter Tryz.func44, Tryz.ntmps44
    go_upto_region 1 with fail
    generalize ((w.alloc (.cells #[.slice s.ao s.T.length s.cap, .slice s.so s.L.length s.sc, .int .i64 s.fn] 25)).alloc (.cells #[.int .i64 s.p, .int .u8 3, .int .i64 s.a, .int .i64 s.b] 31)) = W1 at HX ⊢
    have k0 := (unhide HX).i1
    go_wp2
    go_ret
    exact ⟨⟨_, _, rfl, pAt_lit W1 [3] _⟩, (unhide HX).bel.alloc (unhide HX).bel.size _⟩

theorem rgv_4 (s : Sp) (w : World) : Calls Tryz.prog 44 #[.agg #[.slice s.ao s.T.length s.cap, .slice s.so s.L.length s.sc, .int .i64 s.fn], .agg #[.int .i64 s.p, .int .u8 4, .int .i64 s.a, .int .i64 s.b]] w (Row w (gvR s 4)) := by
    have HX := hide (Bxs.new w s 4)
    go_enter Tryz.func44, Tryz.ntmps44
    go_upto_region 1 with fail
    generalize ((w.alloc (.cells #[.slice s.ao s.T.length s.cap, .slice s.so s.L.length s.sc, .int .i64 s.fn] 25)).alloc (.cells #[.int .i64 s.p, .int .u8 4, .int .i64 s.a, .int .i64 s.b] 31)) = W1 at HX ⊢
    have k0 := (unhide HX).i1
    go_wp2
    go_ret
    exact ⟨⟨_, _, rfl, pAt_lit W1 [255] _⟩, (unhide HX).bel.alloc (unhide HX).bel.size _⟩

theorem rgv_5 (s : Sp) (w : World) : Calls Tryz.prog 44 #[.agg #[.slice s.ao s.T.length s.cap, .slice s.so s.L.length s.sc, .int .i64 s.fn], .agg #[.int .i64 s.p, .int .u8 5, .int .i64 s.a, .int .i64 s.b]] w (Row w (gvR s 5)) := by
    have HX := hide (Bxs.new w s 5)
    go_enter Tryz.func44, Tryz.ntmps44
    go_upto_region 1 with fail
    generalize ((w.alloc (.cells #[.slice s.ao s.T.length s.cap, .slice s.so s.L.length s.sc, .int .i64 s.fn] 25)).alloc (.cells #[.int .i64 s.p, .int .u8 5, .int .i64 s.a, .int .i64 s.b] 31)) = W1 at HX ⊢
    have k0 := (unhide HX).i1
    go_wp2
    go_ret
    exact ⟨⟨_, _, rfl, pAt_nil _ _⟩, (unhide HX).bel⟩

theorem rgv_6 (s : Sp) (w : World) : Calls Tryz.prog 44 #[.agg #[.slice s.ao s.T.length s.cap, .slice s.so s.L.length s.sc, .int .i64 s.fn], .agg #[.int .i64 s.p, .int .u8 6, .int .i64 s.a, .int .i64 s.b]] w (Row w (gvR s 6)) := by
    have HX := hide (Bxs.new w s 6)
    go_enter Tryz.func44, Tryz.ntmps44
    go_upto_region 1 with fail
    generalize ((w.alloc (.cells #[.slice s.ao s.T.length s.cap, .slice s.so s.L.length s.sc, .int .i64 s.fn] 25)).alloc (.cells #[.int .i64 s.p, .int .u8 6, .int .i64 s.a, .int .i64 s.b] 31)) = W1 at HX ⊢
    have k0 := (unhide HX).i1
    go_wp2
    go_ret
    exact ⟨⟨_, _, rfl, pAt_nil _ _⟩, (unhide HX).bel⟩

theorem rgv_7 (s : Sp) (w : World) : Calls Tryz.prog 44 #[.agg #[.slice s.ao s.T.length s.cap, .slice s.so s.L.length s.sc, .int .i64 s.fn], .agg #[.int .i64 s.p, .int .u8 7, .int .i64 s.a, .int .i64 s.b]] w (Row w (gvR s 7)) := by
    have HX := hide (Bxs.new w s 7)
    go_enter Tryz.func44, Tryz.ntmps44
    go_upto_region 1 with fail
    generalize ((w.alloc (.cells #[.slice s.ao s.T.length s.cap, .slice s.so s.L.length s.sc, .int .i64 s.fn] 25)).alloc (.cells #[.int .i64 s.p, .int .u8 7, .int .i64 s.a, .int .i64 s.b] 31)) = W1 at HX ⊢
    have k0 := (unhide HX).i1
    go_wp2
    go_ret
    exact ⟨⟨_, _, rfl, pAt_lit W1 [255, 255] _⟩, (unhide HX).bel.alloc (unhide HX).bel.size _⟩

theorem rgv_8 (s : Sp) (w : World) : Calls Tryz.prog 44 #[.agg #[.slice s.ao s.T.length s.cap, .slice s.so s.L.length s.sc, .int .i64 s.fn], .agg #[.int .i64 s.p, .int .u8 8, .int .i64 s.a, .int .i64 s.b]] w (Row w (gvR s 8)) := by
    have HX := hide (Bxs.new w s 8)
    go_enter Tryz.func44, Tryz.ntmps44
    go_upto_region 1 with fail
    generalize ((w.alloc (.cells #[.slice s.ao s.T.length s.cap, .slice s.so s.L.length s.sc, .int .i64 s.fn] 25)).alloc (.cells #[.int .i64 s.p, .int .u8 8, .int .i64 s.a, .int .i64 s.b] 31)) = W1 at HX ⊢
    have k0 := (unhide HX).i1
    go_wp2
    go_ret
    exact ⟨⟨_, _, rfl, pAt_lit W1 [255, 255] _⟩, (unhide HX).bel.alloc (unhide HX).bel.size _⟩

theorem rgv_9 (s : Sp) (w : World) : Calls Tryz.prog 44 #[.agg #[.slice s.ao s.T.length s.cap, .slice s.so s.L.length s.sc, .int .i64 s.fn], .agg #[.int .i64 s.p, .int .u8 9, .int .i64 s.a, .int .i64 s.b]] w (Row w (gvR s 9)) := by
    have HX := hide (Bxs.new w s 9)
    go_enter Tryz.func44, Tryz.ntmps44
    go_upto_region 1 with fail
    generalize ((w.alloc (.cells #[.slice s.ao s.T.length s.cap, .slice s.so s.L.length s.sc, .int .i64 s.fn] 25)).alloc (.cells #[.int .i64 s.p, .int .u8 9, .int .i64 s.a, .int .i64 s.b] 31)) = W1 at HX ⊢
    have k0 := (unhide HX).i1
    go_wp2
    go_ret
    exact ⟨⟨_, _, rfl, pAt_lit W1 [1] _⟩, (unhide HX).bel.alloc (unhide HX).bel.size _⟩

theorem rgv_10 (s : Sp) (w : World) : Calls Tryz.prog 44 #[.agg #[.slice s.ao s.T.length s.cap, .slice s.so s.L.length s.sc, .int .i64 s.fn], .agg #[.int .i64 s.p, .int .u8 10, .int .i64 s.a, .int .i64 s.b]] w (Row w (gvR s 10)) := by
    have HX := hide (Bxs.new w s 10)
    go_enter Tryz.func44, Tryz.ntmps44
    go_upto_region 1 with fail
    generalize ((w.alloc (.cells #[.slice s.ao s.T.length s.cap, .slice s.so s.L.length s.sc, .int .i64 s.fn] 25)).alloc (.cells #[.int .i64 s.p, .int .u8 10, .int .i64 s.a, .int .i64 s.b] 31)) = W1 at HX ⊢
    have k0 := (unhide HX).i1
    go_wp2
    go_ret
    exact ⟨⟨_, _, rfl, pAt_lit W1 [1] _⟩, (unhide HX).bel.alloc (unhide HX).bel.size _⟩

theorem rgv_11 (s : Sp) (w : World) : Calls Tryz.prog 44 #[.agg #[.slice s.ao s.T.length s.cap, .slice s.so s.L.length s.sc, .int .i64 s.fn], .agg #[.int .i64 s.p, .int .u8 11, .int .i64 s.a, .int .i64 s.b]] w (Row w (gvR s 11)) := by
    have HX := hide (Bxs.new w s 11)
    go_enter Tryz.func44, Tryz.ntmps44
    go_upto_region 1 with fail
    generalize ((w.alloc (.cells #[.slice s.ao s.T.length s.cap, .slice s.so s.L.length s.sc, .int .i64 s.fn] 25)).alloc (.cells #[.int .i64 s.p, .int .u8 11, .int .i64 s.a, .int .i64 s.b] 31)) = W1 at HX ⊢
    have k0 := (unhide HX).i1
    go_wp2
    go_ret
    exact ⟨⟨_, _, rfl, pAt_lit W1 [1] _⟩, (unhide HX).bel.alloc (unhide HX).bel.size _⟩

theorem rgv_12 (s : Sp) (w : World) : Calls Tryz.prog 44 #[.agg #[.slice s.ao s.T.length s.cap, .slice s.so s.L.length s.sc, .int .i64 s.fn], .agg #[.int .i64 s.p, .int .u8 12, .int .i64 s.a, .int .i64 s.b]] w (Row w (gvR s 12)) := by
    have HX := hide (Bxs.new w s 12)
    go_enter Tryz.func44, Tryz.ntmps44
    go_upto_region 1 with fail
    generalize ((w.alloc (.cells #[.slice s.ao s.T.length s.cap, .slice s.so s.L.length s.sc, .int .i64 s.fn] 25)).alloc (.cells #[.int .i64 s.p, .int .u8 12, .int .i64 s.a, .int .i64 s.b] 31)) = W1 at HX ⊢
    have k0 := (unhide HX).i1
    go_wp2
    go_ret
    exact ⟨⟨_, _, rfl, pAt_lit W1 [1] _⟩, (unhide HX).bel.alloc (unhide HX).bel.size _⟩

theorem rgv_13 (s : Sp) (w : World) : Calls Tryz.prog 44 #[.agg #[.slice s.ao s.T.length s.cap, .slice s.so s.L.length s.sc, .int .i64 s.fn], .agg #[.int .i64 s.p, .int .u8 13, .int .i64 s.a, .int .i64 s.b]] w (Row w (gvR s 13)) := by
    have HX := hide (Bxs.new w s 13)
    go_enter Tryz.func44, Tryz.ntmps44
    go_upto_region 1 with fail
    generalize ((w.alloc (.cells #[.slice s.ao s.T.length s.cap, .slice s.so s.L.length s.sc, .int .i64 s.fn] 25)).alloc (.cells #[.int .i64 s.p, .int .u8 13, .int .i64 s.a, .int .i64 s.b] 31)) = W1 at HX ⊢
    have k0 := (unhide HX).i1
    go_wp2
    go_ret
    exact ⟨⟨_, _, rfl, pAt_lit W1 [1] _⟩, (unhide HX).bel.alloc (unhide HX).bel.size _⟩

theorem rgv_14 (s : Sp) (w : World) : Calls Tryz.prog 44 #[.agg #[.slice s.ao s.T.length s.cap, .slice s.so s.L.length s.sc, .int .i64 s.fn], .agg #[.int .i64 s.p, .int .u8 14, .int .i64 s.a, .int .i64 s.b]] w (Row w (gvR s 14)) := by
    have HX := hide (Bxs.new w s 14)
    go_enter Tryz.func44, Tryz.ntmps44
    go_upto_region 1 with fail
    generalize ((w.alloc (.cells #[.slice s.ao s.T.length s.cap, .slice s.so s.L.length s.sc, .int .i64 s.fn] 25)).alloc (.cells #[.int .i64 s.p, .int .u8 14, .int .i64 s.a, .int .i64 s.b] 31)) = W1 at HX ⊢
    have k0 := (unhide HX).i1
    go_wp2
    go_ret
    exact ⟨⟨_, _, rfl, pAt_lit W1 [1] _⟩, (unhide HX).bel.alloc (unhide HX).bel.size _⟩

theorem rgv_15 (s : Sp) (w : World) : Calls Tryz.prog 44 #[.agg #[.slice s.ao s.T.length s.cap, .slice s.so s.L.length s.sc, .int .i64 s.fn], .agg #[.int .i64 s.p, .int .u8 15, .int .i64 s.a, .int .i64 s.b]] w (Row w (gvR s 15)) := by
    have HX := hide (Bxs.new w s 15)
    go_enter Tryz.func44, Tryz.ntmps44
    go_upto_region 1 with fail
    generalize ((w.alloc (.cells #[.slice s.ao s.T.length s.cap, .slice s.so s.L.length s.sc, .int .i64 s.fn] 25)).alloc (.cells #[.int .i64 s.p, .int .u8 15, .int .i64 s.a, .int .i64 s.b] 31)) = W1 at HX ⊢
    have k0 := (unhide HX).i1
    go_wp2
    go_ret
    exact ⟨⟨_, _, rfl, pAt_lit W1 [2] _⟩, (unhide HX).bel.alloc (unhide HX).bel.size _⟩

theorem rgv_16 (s : Sp) (w : World) : Calls Tryz.prog 44 #[.agg #[.slice s.ao s.T.length s.cap, .slice s.so s.L.length s.sc, .int .i64 s.fn], .agg #[.int .i64 s.p, .int .u8 16, .int .i64 s.a, .int .i64 s.b]] w (Row w (gvR s 16)) := by
    have HX := hide (Bxs.new w s 16)
    go_enter Tryz.func44, Tryz.ntmps44
    go_upto_region 1 with fail
    generalize ((w.alloc (.cells #[.slice s.ao s.T.length s.cap, .slice s.so s.L.length s.sc, .int .i64 s.fn] 25)).alloc (.cells #[.int .i64 s.p, .int .u8 16, .int .i64 s.a, .int .i64 s.b] 31)) = W1 at HX ⊢
    have k0 := (unhide HX).i1
    go_wp2
    go_ret
    exact ⟨⟨_, _, rfl, pAt_lit W1 [2] _⟩, (unhide HX).bel.alloc (unhide HX).bel.size _⟩

theorem rgv_17 (s : Sp) (w : World) : Calls Tryz.prog 44 #[.agg #[.slice s.ao s.T.length s.cap, .slice s.so s.L.length s.sc, .int .i64 s.fn], .agg #[.int .i64 s.p, .int .u8 17, .int .i64 s.a, .int .i64 s.b]] w (Row w (gvR s 17)) := by
    have HX := hide (Bxs.new w s 17)
    go_enter Tryz.func44, Tryz.ntmps44
    go_upto_region 1 with fail
    generalize ((w.alloc (.cells #[.slice s.ao s.T.length s.cap, .slice s.so s.L.length s.sc, .int .i64 s.fn] 25)).alloc (.cells #[.int .i64 s.p, .int .u8 17, .int .i64 s.a, .int .i64 s.b] 31)) = W1 at HX ⊢
    have k0 := (unhide HX).i1
    go_wp2
    go_ret
    exact ⟨⟨_, _, rfl, pAt_lit W1 [2] _⟩, (unhide HX).bel.alloc (unhide HX).bel.size _⟩

theorem rgv_18 (s : Sp) (w : World) : Calls Tryz.prog 44 #[.agg #[.slice s.ao s.T.length s.cap, .slice s.so s.L.length s.sc, .int .i64 s.fn], .agg #[.int .i64 s.p, .int .u8 18, .int .i64 s.a, .int .i64 s.b]] w (Row w (gvR s 18)) := by
    have HX := hide (Bxs.new w s 18)
    go_enter Tryz.func44, Tryz.ntmps44
    go_upto_region 1 with fail
    generalize ((w.alloc (.cells #[.slice s.ao s.T.length s.cap, .slice s.so s.L.length s.sc, .int .i64 s.fn] 25)).alloc (.cells #[.int .i64 s.p, .int .u8 18, .int .i64 s.a, .int .i64 s.b] 31)) = W1 at HX ⊢
    have k0 := (unhide HX).i1
    go_wp2
    go_ret
    exact ⟨⟨_, _, rfl, pAt_lit W1 [2] _⟩, (unhide HX).bel.alloc (unhide HX).bel.size _⟩

theorem rgv_19 (s : Sp) (w : World) : Calls Tryz.prog 44 #[.agg #[.slice s.ao s.T.length s.cap, .slice s.so s.L.length s.sc, .int .i64 s.fn], .agg #[.int .i64 s.p, .int .u8 19, .int .i64 s.a, .int .i64 s.b]] w (Row w (gvR s 19)) := by
    have HX := hide (Bxs.new w s 19)
    go_enter Tryz.func44, Tryz.ntmps44
    go_upto_region 1 with fail
    generalize ((w.alloc (.cells #[.slice s.ao s.T.length s.cap, .slice s.so s.L.length s.sc, .int .i64 s.fn] 25)).alloc (.cells #[.int .i64 s.p, .int .u8 19, .int .i64 s.a, .int .i64 s.b] 31)) = W1 at HX ⊢
    have k0 := (unhide HX).i1
    go_wp2
    go_ret
    exact ⟨⟨_, _, rfl, pAt_nil _ _⟩, (unhide HX).bel⟩

theorem rgv_20 (s : Sp) (w : World) : Calls Tryz.prog 44 #[.agg #[.slice s.ao s.T.length s.cap, .slice s.so s.L.length s.sc, .int .i64 s.fn], .agg #[.int .i64 s.p, .int .u8 20, .int .i64 s.a, .int .i64 s.b]] w (Row w (gvR s 20)) := by
    have HX := hide (Bxs.new w s 20)
    go_enter Tryz.func44, Tryz.ntmps44
    go_upto_region 1 with fail
    generalize ((w.alloc (.cells #[.slice s.ao s.T.length s.cap, .slice s.so s.L.length s.sc, .int .i64 s.fn] 25)).alloc (.cells #[.int .i64 s.p, .int .u8 20, .int .i64 s.a, .int .i64 s.b] 31)) = W1 at HX ⊢
    have k0 := (unhide HX).i1
    go_wp2
    go_ret
    exact ⟨⟨_, _, rfl, pAt_nil _ _⟩, (unhide HX).bel⟩

theorem rgv_22 (s : Sp) (w : World) : Calls Tryz.prog 44 #[.agg #[.slice s.ao s.T.length s.cap, .slice s.so s.L.length s.sc, .int .i64 s.fn], .agg #[.int .i64 s.p, .int .u8 22, .int .i64 s.a, .int .i64 s.b]] w (Row w (gvR s 22)) := by
    have HX := hide (Bxs.new w s 22)
    go_enter Tryz.func44, Tryz.ntmps44
    go_upto_region 1 with fail
    generalize ((w.alloc (.cells #[.slice s.ao s.T.length s.cap, .slice s.so s.L.length s.sc, .int .i64 s.fn] 25)).alloc (.cells #[.int .i64 s.p, .int .u8 22, .int .i64 s.a, .int .i64 s.b] 31)) = W1 at HX ⊢
    have k0 := (unhide HX).i1
    go_wp2
    go_ret
    exact ⟨⟨_, _, rfl, pAt_nil _ _⟩, (unhide HX).bel⟩

theorem rgv_25 (s : Sp) (w : World) : Calls Tryz.prog 44 #[.agg #[.slice s.ao s.T.length s.cap, .slice s.so s.L.length s.sc, .int .i64 s.fn], .agg #[.int .i64 s.p, .int .u8 25, .int .i64 s.a, .int .i64 s.b]] w (Row w (gvR s 25)) := by
    have HX := hide (Bxs.new w s 25)
    go_enter Tryz.func44, Tryz.ntmps44
    go_upto_region 1 with fail
    generalize ((w.alloc (.cells #[.slice s.ao s.T.length s.cap, .slice s.so s.L.length s.sc, .int .i64 s.fn] 25)).alloc (.cells #[.int .i64 s.p, .int .u8 25, .int .i64 s.a, .int .i64 s.b] 31)) = W1 at HX ⊢
    have k0 := (unhide HX).i1
    go_wp2
    go_ret
    exact ⟨⟨_, _, rfl, pAt_nil _ _⟩, (unhide HX).bel⟩

theorem rgv_26 (s : Sp) (w : World) : Calls Tryz.prog 44 #[.agg #[.slice s.ao s.T.length s.cap, .slice s.so s.L.length s.sc, .int .i64 s.fn], .agg #[.int .i64 s.p, .int .u8 26, .int .i64 s.a, .int .i64 s.b]] w (Row w (gvR s 26)) := by
    have HX := hide (Bxs.new w s 26)
    go_enter Tryz.func44, Tryz.ntmps44
    go_upto_region 1 with fail
    generalize ((w.alloc (.cells #[.slice s.ao s.T.length s.cap, .slice s.so s.L.length s.sc, .int .i64 s.fn] 25)).alloc (.cells #[.int .i64 s.p, .int .u8 26, .int .i64 s.a, .int .i64 s.b] 31)) = W1 at HX ⊢
    have k0 := (unhide HX).i1
    go_wp2
    go_ret
    exact ⟨⟨_, _, rfl, pAt_lit W1 [4] _⟩, (unhide HX).bel.alloc (unhide HX).bel.size _⟩

theorem rgv_27 (s : Sp) (w : World) : Calls Tryz.prog 44 #[.agg #[.slice s.ao s.T.length s.cap, .slice s.so s.L.length s.sc, .int .i64 s.fn], .agg #[.int .i64 s.p, .int .u8 27, .int .i64 s.a, .int .i64 s.b]] w (Row w (gvR s 27)) := by
    have HX := hide (Bxs.new w s 27)
    go_enter Tryz.func44, Tryz.ntmps44
    go_upto_region 1 with fail
    generalize ((w.alloc (.cells #[.slice s.ao s.T.length s.cap, .slice s.so s.L.length s.sc, .int .i64 s.fn] 25)).alloc (.cells #[.int .i64 s.p, .int .u8 27, .int .i64 s.a, .int .i64 s.b] 31)) = W1 at HX ⊢
    have k0 := (unhide HX).i1
    go_wp2
    go_ret
    exact ⟨⟨_, _, rfl, pAt_lit W1 [1] _⟩, (unhide HX).bel.alloc (unhide HX).bel.size _⟩

theorem rgv_28 (s : Sp) (w : World) : Calls Tryz.prog 44 #[.agg #[.slice s.ao s.T.length s.cap, .slice s.so s.L.length s.sc, .int .i64 s.fn], .agg #[.int .i64 s.p, .int .u8 28, .int .i64 s.a, .int .i64 s.b]] w (Row w (gvR s 28)) := by
    have HX := hide (Bxs.new w s 28)
    go_enter Tryz.func44, Tryz.ntmps44
    go_upto_region 1 with fail
    generalize ((w.alloc (.cells #[.slice s.ao s.T.length s.cap, .slice s.so s.L.length s.sc, .int .i64 s.fn] 25)).alloc (.cells #[.int .i64 s.p, .int .u8 28, .int .i64 s.a, .int .i64 s.b] 31)) = W1 at HX ⊢
    have k0 := (unhide HX).i1
    go_wp2
    go_ret
    exact ⟨⟨_, _, rfl, pAt_lit W1 [1] _⟩, (unhide HX).bel.alloc (unhide HX).bel.size _⟩

theorem rgv_29 (s : Sp) (w : World) : Calls Tryz.prog 44 #[.agg #[.slice s.ao s.T.length s.cap, .slice s.so s.L.length s.sc, .int .i64 s.fn], .agg #[.int .i64 s.p, .int .u8 29, .int .i64 s.a, .int .i64 s.b]] w (Row w (gvR s 29)) := by
    have HX := hide (Bxs.new w s 29)
    go_enter Tryz.func44, Tryz.ntmps44
    go_upto_region 1 with fail
    generalize ((w.alloc (.cells #[.slice s.ao s.T.length s.cap, .slice s.so s.L.length s.sc, .int .i64 s.fn] 25)).alloc (.cells #[.int .i64 s.p, .int .u8 29, .int .i64 s.a, .int .i64 s.b] 31)) = W1 at HX ⊢
    have k0 := (unhide HX).i1
    go_wp2
    go_ret
    exact ⟨⟨_, _, rfl, pAt_nil _ _⟩, (unhide HX).bel⟩

theorem rgv_31 (s : Sp) (w : World) : Calls Tryz.prog 44 #[.agg #[.slice s.ao s.T.length s.cap, .slice s.so s.L.length s.sc, .int .i64 s.fn], .agg #[.int .i64 s.p, .int .u8 31, .int .i64 s.a, .int .i64 s.b]] w (Row w (gvR s 31)) := by
    have HX := hide (Bxs.new w s 31)
    go_enter Tryz.func44, Tryz.ntmps44
    go_upto_region 1 with fail
    generalize ((w.alloc (.cells #[.slice s.ao s.T.length s.cap, .slice s.so s.L.length s.sc, .int .i64 s.fn] 25)).alloc (.cells #[.int .i64 s.p, .int .u8 31, .int .i64 s.a, .int .i64 s.b] 31)) = W1 at HX ⊢
    have k0 := (unhide HX).i1
    go_wp2
    go_ret
    exact ⟨⟨_, _, rfl, pAt_lit W1 [2] _⟩, (unhide HX).bel.alloc (unhide HX).bel.size _⟩

theorem rgv_32 (s : Sp) (w : World) : Calls Tryz.prog 44 #[.agg #[.slice s.ao s.T.length s.cap, .slice s.so s.L.length s.sc, .int .i64 s.fn], .agg #[.int .i64 s.p, .int .u8 32, .int .i64 s.a, .int .i64 s.b]] w (Row w (gvR s 32)) := by
    have HX := hide (Bxs.new w s 32)
    go_enter Tryz.func44, Tryz.ntmps44
    go_upto_region 1 with fail
    generalize ((w.alloc (.cells #[.slice s.ao s.T.length s.cap, .slice s.so s.L.length s.sc, .int .i64 s.fn] 25)).alloc (.cells #[.int .i64 s.p, .int .u8 32, .int .i64 s.a, .int .i64 s.b] 31)) = W1 at HX ⊢
    have k0 := (unhide HX).i1
    go_wp2
    go_ret
    exact ⟨⟨_, _, rfl, pAt_nil _ _⟩, (unhide HX).bel⟩

theorem rgv_33 (s : Sp) (w : World) : Calls Tryz.prog 44 #[.agg #[.slice s.ao s.T.length s.cap, .slice s.so s.L.length s.sc, .int .i64 s.fn], .agg #[.int .i64 s.p, .int .u8 33, .int .i64 s.a, .int .i64 s.b]] w (Row w (gvR s 33)) := by
    have HX := hide (Bxs.new w s 33)
    go_enter Tryz.func44, Tryz.ntmps44
    go_upto_region 1 with fail
    generalize ((w.alloc (.cells #[.slice s.ao s.T.length s.cap, .slice s.so s.L.length s.sc, .int .i64 s.fn] 25)).alloc (.cells #[.int .i64 s.p, .int .u8 33, .int .i64 s.a, .int .i64 s.b] 31)) = W1 at HX ⊢
    have k0 := (unhide HX).i1
    go_wp2
    go_ret
    exact ⟨⟨_, _, rfl, pAt_nil _ _⟩, (unhide HX).bel⟩

end Go.Proofs.YtkodmpcnndbngaaGreatDoor

/-
  provisoref07's Takes and Gives where they look at the operands; Operands: as the plain functions say; nothing old is turned.
-/
namespace Go.Proofs.YtkodmpcnndbngaaGreatDoor
open Go.RowKit
set_option maxRecDepth 20000

theorem rtk_21x (s : Sp) (w : World) (hok : SpOk w s) (x : Sg) (c : Nat) (hc : s.a = (c : Int)) (hx : s.L[c]? = some x) : Calls Tryz.prog 42 #[.agg #[.slice s.ao s.T.length s.cap, .slice s.so s.L.length s.sc, .int .i64 s.fn], .agg #[.int .i64 s.p, .int .u8 21, .int .i64 s.a, .int .i64 s.b]] w (Row w x.ps) := by
  have HCQ := hide hc
  clear hc
  have HX := hide (Bxs.new w s 21)
  have HOK := hide (hok.below (Bxs.new w s 21).bel)
  clear hok
  go_enter Tryz.func42, Tryz.ntmps42
  go_upto_region 1 with fail
  generalize ((w.alloc (.cells #[.slice s.ao s.T.length s.cap, .slice s.so s.L.length s.sc, .int .i64 s.fn] 25)).alloc (.cells #[.int .i64 s.p, .int .u8 21, .int .i64 s.a, .int .i64 s.b] 31)) = W1 at HX HOK ⊢
  have k0 := (unhide HX).i1
  obtain ⟨b, off, ep, hxa⟩ := (unhide HOK).sgs c x hx
  have hlt := (List.getElem?_eq_some_iff.1 hx).1
  have hzl := (unhide HOK).hzl
  have c0 := hxa.c0
  have c1 := hxa.c1
  have HPA := hide hxa.ok.prm
  have k1 := (unhide HX).e1
  rw [ep] at k1
  have j1 : (0 : Int) ≤ ((c : Nat) : Int) := by omega
  have j2 : ((c : Nat) : Int) < ((s.L.length : Nat) : Int) := by omega
  have k2 := (unhide HX).i2
  rw [unhide HCQ] at k2
  clear ep hx hxa
  go_wp2
  go_ret
  exact ⟨⟨_, _, rfl, unhide HPA⟩, (unhide HX).bel⟩

theorem rtk_22x (s : Sp) (w : World) (hok : SpOk w s) (x : Sg) (c : Nat) (hc : s.fn = (c : Int)) (hx : s.L[c]? = some x) : Calls Tryz.prog 42 #[.agg #[.slice s.ao s.T.length s.cap, .slice s.so s.L.length s.sc, .int .i64 s.fn], .agg #[.int .i64 s.p, .int .u8 22, .int .i64 s.a, .int .i64 s.b]] w (Row w (rtD x.rt)) := by
  have HCQ := hide hc
  clear hc
  have HX := hide (Bxs.new w s 22)
  have HOK := hide (hok.below (Bxs.new w s 22).bel)
  clear hok
  go_enter Tryz.func42, Tryz.ntmps42
  go_upto_region 1 with fail
  generalize ((w.alloc (.cells #[.slice s.ao s.T.length s.cap, .slice s.so s.L.length s.sc, .int .i64 s.fn] 25)).alloc (.cells #[.int .i64 s.p, .int .u8 22, .int .i64 s.a, .int .i64 s.b] 31)) = W1 at HX HOK ⊢
  have k0 := (unhide HX).i1
  obtain ⟨b, off, ep, hxa⟩ := (unhide HOK).sgs c x hx
  have hlt := (List.getElem?_eq_some_iff.1 hx).1
  have hzl := (unhide HOK).hzl
  have c0 := hxa.c0
  have c1 := hxa.c1
  have HPA := hide hxa.ok.prm
  have k1 := (unhide HX).e1
  rw [ep] at k1
  have j1 : (0 : Int) ≤ ((c : Nat) : Int) := by omega
  have j2 : ((c : Nat) : Int) < ((s.L.length : Nat) : Int) := by omega
  have k2 := (unhide HX).e2
  rw [unhide HCQ] at k2
  clear ep hx hxa
  go_wp2_with fail
  refine (some_any x.rt _).mono ?_
  rintro e W2 ⟨⟨ga, gc, rfl, hP⟩, hB2⟩
  have HB2 := hide ((unhide HX).bel.trans (hB2.mono (unhide HX).bel.size))
  have HP := hide hP
  clear hB2 hP k1 k2 c0 c1
  go_wp2
  go_ret
  exact ⟨⟨_, _, rfl, unhide HP⟩, unhide HB2⟩

theorem rgv_21x (s : Sp) (w : World) (hok : SpOk w s) (x : Sg) (c : Nat) (hc : s.a = (c : Int)) (hx : s.L[c]? = some x) : Calls Tryz.prog 44 #[.agg #[.slice s.ao s.T.length s.cap, .slice s.so s.L.length s.sc, .int .i64 s.fn], .agg #[.int .i64 s.p, .int .u8 21, .int .i64 s.a, .int .i64 s.b]] w (Row w (rtD x.rt)) := by
  have HCQ := hide hc
  clear hc
  have HX := hide (Bxs.new w s 21)
  have HOK := hide (hok.below (Bxs.new w s 21).bel)
  clear hok
  go_enter Tryz.func44, Tryz.ntmps44
  go_upto_region 1 with fail
  generalize ((w.alloc (.cells #[.slice s.ao s.T.length s.cap, .slice s.so s.L.length s.sc, .int .i64 s.fn] 25)).alloc (.cells #[.int .i64 s.p, .int .u8 21, .int .i64 s.a, .int .i64 s.b] 31)) = W1 at HX HOK ⊢
  have k0 := (unhide HX).i1
  obtain ⟨b, off, ep, hxa⟩ := (unhide HOK).sgs c x hx
  have hlt := (List.getElem?_eq_some_iff.1 hx).1
  have hzl := (unhide HOK).hzl
  have c0 := hxa.c0
  have c1 := hxa.c1
  have HPA := hide hxa.ok.prm
  have k1 := (unhide HX).e1
  rw [ep] at k1
  have j1 : (0 : Int) ≤ ((c : Nat) : Int) := by omega
  have j2 : ((c : Nat) : Int) < ((s.L.length : Nat) : Int) := by omega
  have k2 := (unhide HX).i2
  rw [unhide HCQ] at k2
  clear ep hx hxa
  go_wp2_with fail
  refine (some_any x.rt _).mono ?_
  rintro e W2 ⟨⟨ga, gc, rfl, hP⟩, hB2⟩
  have HB2 := hide ((unhide HX).bel.trans (hB2.mono (unhide HX).bel.size))
  have HP := hide hP
  clear hB2 hP k1 k2 c0 c1
  go_wp2
  go_ret
  exact ⟨⟨_, _, rfl, unhide HP⟩, unhide HB2⟩

theorem rtk_24x (s : Sp) (w : World) (hok : SpOk w s) (c : Nat) (hc : s.a = (c : Int)) (hlt : c < 240) (q : Nat) (hq : q = 16 + c) : Calls Tryz.prog 42 #[.agg #[.slice s.ao s.T.length s.cap, .slice s.so s.L.length s.sc, .int .i64 s.fn], .agg #[.int .i64 s.p, .int .u8 24, .int .i64 s.a, .int .i64 s.b]] w (Row w [q]) := by
  have HCQ := hide hc
  clear hc
  have HX := hide (Bxs.new w s 24)
  have HOK := hide (hok.below (Bxs.new w s 24).bel)
  clear hok
  go_enter Tryz.func42, Tryz.ntmps42
  go_upto_region 1 with fail
  generalize ((w.alloc (.cells #[.slice s.ao s.T.length s.cap, .slice s.so s.L.length s.sc, .int .i64 s.fn] 25)).alloc (.cells #[.int .i64 s.p, .int .u8 24, .int .i64 s.a, .int .i64 s.b] 31)) = W1 at HX HOK ⊢
  have k0 := (unhide HX).i1
  have k2 := (unhide HX).i2
  rw [unhide HCQ] at k2
  have HCL := hide (rclass_any c q hlt hq W1)
  clear hq
  go_wp2_with fail
  refine (unhide HCL).mono ?_
  rintro e W2 ⟨rfl, hw2⟩
  rw [hw2]
  clear hw2 W2
  go_wp2
  go_ret
  exact ⟨⟨_, _, rfl, pAt_lit W1 [q] _⟩, (unhide HX).bel.alloc (unhide HX).bel.size _⟩

theorem rgv_23x (s : Sp) (w : World) (hok : SpOk w s) (c : Nat) (hc : s.a = (c : Int)) (hlt : c < 240) (q : Nat) (hq : q = 16 + c) : Calls Tryz.prog 44 #[.agg #[.slice s.ao s.T.length s.cap, .slice s.so s.L.length s.sc, .int .i64 s.fn], .agg #[.int .i64 s.p, .int .u8 23, .int .i64 s.a, .int .i64 s.b]] w (Row w [q]) := by
  have HCQ := hide hc
  clear hc
  have HX := hide (Bxs.new w s 23)
  have HOK := hide (hok.below (Bxs.new w s 23).bel)
  clear hok
  go_enter Tryz.func44, Tryz.ntmps44
  go_upto_region 1 with fail
  generalize ((w.alloc (.cells #[.slice s.ao s.T.length s.cap, .slice s.so s.L.length s.sc, .int .i64 s.fn] 25)).alloc (.cells #[.int .i64 s.p, .int .u8 23, .int .i64 s.a, .int .i64 s.b] 31)) = W1 at HX HOK ⊢
  have k0 := (unhide HX).i1
  have k2 := (unhide HX).i2
  rw [unhide HCQ] at k2
  have HCL := hide (rclass_any c q hlt hq W1)
  clear hq
  go_wp2_with fail
  refine (unhide HCL).mono ?_
  rintro e W2 ⟨rfl, hw2⟩
  rw [hw2]
  clear hw2 W2
  go_wp2
  go_ret
  exact ⟨⟨_, _, rfl, pAt_lit W1 [q] _⟩, (unhide HX).bel.alloc (unhide HX).bel.size _⟩

theorem rgv_30x (s : Sp) (w : World) (hok : SpOk w s) (c : Nat) (hc : s.a = (c : Int)) (hlt : c < 240) (q : Nat) (hq : q = 16 + c) : Calls Tryz.prog 44 #[.agg #[.slice s.ao s.T.length s.cap, .slice s.so s.L.length s.sc, .int .i64 s.fn], .agg #[.int .i64 s.p, .int .u8 30, .int .i64 s.a, .int .i64 s.b]] w (Row w [q]) := by
  have HCQ := hide hc
  clear hc
  have HX := hide (Bxs.new w s 30)
  have HOK := hide (hok.below (Bxs.new w s 30).bel)
  clear hok
  go_enter Tryz.func44, Tryz.ntmps44
  go_upto_region 1 with fail
  generalize ((w.alloc (.cells #[.slice s.ao s.T.length s.cap, .slice s.so s.L.length s.sc, .int .i64 s.fn] 25)).alloc (.cells #[.int .i64 s.p, .int .u8 30, .int .i64 s.a, .int .i64 s.b] 31)) = W1 at HX HOK ⊢
  have k0 := (unhide HX).i1
  have k2 := (unhide HX).i2
  rw [unhide HCQ] at k2
  have HCL := hide (rclass_any c q hlt hq W1)
  clear hq
  go_wp2_with fail
  refine (unhide HCL).mono ?_
  rintro e W2 ⟨rfl, hw2⟩
  rw [hw2]
  clear hw2 W2
  go_wp2
  go_ret
  exact ⟨⟨_, _, rfl, pAt_lit W1 [q] _⟩, (unhide HX).bel.alloc (unhide HX).bel.size _⟩

set_option maxHeartbeats 2000000 in
theorem rgv_24x (s : Sp) (w : World) (hok : SpOk w s) (d : Nat) (f : Fl) (hd : s.b = (d : Int)) (hf : (fieldsB s.T s.a)[d]? = some f) : Calls Tryz.prog 44 #[.agg #[.slice s.ao s.T.length s.cap, .slice s.so s.L.length s.sc, .int .i64 s.fn], .agg #[.int .i64 s.p, .int .u8 24, .int .i64 s.a, .int .i64 s.b]] w (Row w (rtD f.ty)) := by
  have HDQ := hide hd
  clear hd
  have HX := hide (Bxs.new w s 24)
  have HOK := hide (hok.below (Bxs.new w s 24).bel)
  clear hok
  go_enter Tryz.func44, Tryz.ntmps44
  go_upto_region 1 with fail
  generalize ((w.alloc (.cells #[.slice s.ao s.T.length s.cap, .slice s.so s.L.length s.sc, .int .i64 s.fn] 25)).alloc (.cells #[.int .i64 s.p, .int .u8 24, .int .i64 s.a, .int .i64 s.b] 31)) = W1 at HX HOK ⊢
  have k0 := (unhide HX).i1
  have HFD := hide (refFieldsF (s := s) (W := W1.drew) ((unhide HOK).tab.below (belowD (Below.refl _ _) 1)) (unhide HOK).hz (unhide HOK).can.made)
  have HXd : Hid (Bxs w W1.drew s 24) := hide ((unhide HX).below (belowD (Below.refl _ _) 1))
  have hln := fields_len (unhide HOK).can.made s.a
  have hlt2 := (List.getElem?_eq_some_iff.1 hf).1
  go_upto_region 32 with fail
  refine wp_region_held_drew (S := (fun w' => w'.cell? ⟨w.heap.size, 0, none⟩ = some (.slice s.ao s.T.length s.cap) ∧ w'.cell? ⟨w.heap.size + 1, 2, none⟩ = some (.int .i64 s.a) ∧ w'.cell? ⟨w.heap.size + 1, 3, none⟩ = some (.int .i64 (d : Int)))) (by kernel_rfl) ⟨(unhide HX).e0, (unhide HX).i2, by rw [← unhide HDQ]; exact (unhide HX).i3⟩ (fun hS => ?_)
  clear HX k0
  generalize W1.drew = Wd at HFD HXd hS ⊢
  refine wpAnyH_take (i := 0) (v := .pointer (some ⟨w.heap.size, 0, none⟩)) rfl (by kernel_rfl) (by kernel_rfl) (by kernel_rfl) (fun _ _ _ h => h) (Or.inl ⟨by rfl, fun W h => by obtain ⟨h0, h1, h2⟩ := h; go_simp⟩) hS ?_
  refine wpAnyH_take (i := 1) (v := .slice s.ao s.T.length s.cap) rfl (by kernel_rfl) (by kernel_rfl) (by kernel_rfl) (fun _ _ _ h => h) (Or.inl ⟨by rfl, fun W h => by obtain ⟨h0, h1, h2⟩ := h; go_simp⟩) hS ?_
  refine wpAnyH_take (i := 2) (v := .pointer (some ⟨w.heap.size + 1, 2, none⟩)) rfl (by kernel_rfl) (by kernel_rfl) (by kernel_rfl) (fun _ _ _ h => h) (Or.inl ⟨by rfl, fun W h => by obtain ⟨h0, h1, h2⟩ := h; go_simp⟩) hS ?_
  refine wpAnyH_take (i := 3) (v := .int .i64 s.a) rfl (by kernel_rfl) (by kernel_rfl) (by kernel_rfl) (fun _ _ _ h => h) (Or.inl ⟨by rfl, fun W h => by obtain ⟨h0, h1, h2⟩ := h; go_simp⟩) hS ?_
  refine wpAnyH_take (i := 5) (v := .pointer (some ⟨w.heap.size + 1, 3, none⟩)) rfl (by kernel_rfl) (by kernel_rfl) (by kernel_rfl) (fun _ _ _ h => h) (Or.inl ⟨by rfl, fun W h => by obtain ⟨h0, h1, h2⟩ := h; go_simp⟩) hS ?_
  refine wpAnyH_take (i := 6) (v := .int .i64 (d : Int)) rfl (by kernel_rfl) (by kernel_rfl) (by kernel_rfl) (fun _ _ _ h => h) (Or.inl ⟨by rfl, fun W h => by obtain ⟨h0, h1, h2⟩ := h; go_simp⟩) hS ?_
  refine wpAnyH_ready (rs := [4]) (by kernel_rfl) (by simp) ?_
  refine AllReadyH.cons rfl (fun K hK => ?_) AllReadyH.nil
  go_simp
  go_wp2_with (go_at_call 41; refine (unhide HFD).mono ?_; rintro e W2 ⟨fa, fc, rfl, hF, hB2⟩)
  have HX2 := hide ((unhide HXd).below hB2)
  refine hK.out _ _ ⟨(unhide HX2).e0, (unhide HX2).i2, by rw [← unhide HDQ]; exact (unhide HX2).i3⟩ (fun hS2 => ?_)
  clear hK K hS hB2 HXd HFD
  obtain ⟨b, off, rfl, hfa⟩ := hF d f hf
  have c1 := hfa.c1
  generalize (fieldsB s.T s.a).length = nl at hlt2 hln ⊢
  have j1 : (0 : Int) ≤ ((d : Nat) : Int) := by omega
  have j2 : ((d : Nat) : Int) < ((nl : Nat) : Int) := by omega
  clear hf hF hfa
  refine wpAnyH_ready (rs := [7]) (by kernel_rfl) (by simp) ?_
  refine AllReadyH.cons rfl (fun K hK => ?_) AllReadyH.nil
  go_simp
  refine hK.out _ _ hS2 (fun hS2 => ?_)
  clear hK K
  refine wpAnyH_ready (rs := [8]) (by kernel_rfl) (by simp) ?_
  refine AllReadyH.cons rfl (fun K hK => ?_) AllReadyH.nil
  go_simp
  refine hK.out _ _ hS2 (fun hS2 => ?_)
  clear hK K
  refine wpAnyH_ready (rs := [9]) (by kernel_rfl) (by simp) ?_
  refine AllReadyH.cons rfl (fun K hK => ?_) AllReadyH.nil
  go_simp
  refine hK.out _ _ hS2 (fun hS2 => ?_)
  clear hK K
  have hs2 := some_any f.ty W2
  refine wpAnyH_ready (rs := [10]) (by kernel_rfl) (by simp) ?_
  refine AllReadyH.cons rfl (fun K hK => ?_) AllReadyH.nil
  go_simp
  go_wp2_with (go_at_call 65; refine (some_any f.ty W2).mono ?_; rintro e W3 ⟨⟨ga, gc, rfl, hP⟩, hB3⟩)
  have HX3 := hide ((unhide HX2).below hB3)
  have HP := hide hP
  refine hK.out _ _ ⟨(unhide HX3).e0, (unhide HX3).i2, (hB3.cell (p := ⟨w.heap.size + 1, 3, none⟩) (unhide HX2).lt).trans hS2.2.2⟩ (fun hS3 => ?_)
  clear hK K hS2 hB3 hP hs2
  refine wpAnyH_ready (rs := [11]) (by kernel_rfl) (by simp) ?_
  refine AllReadyH.cons rfl (fun K hK => ?_) AllReadyH.nil
  go_simp
  refine hK.out _ _ hS3 (fun hS3 => ?_)
  clear hK K
  refine wpAnyH_done (by kernel_rfl) ?_ _
  go_wp2
  go_ret
  exact ⟨⟨_, _, rfl, unhide HP⟩, (unhide HX3).bel⟩

set_option maxHeartbeats 2000000 in
theorem rtk_25x (s : Sp) (w : World) (hok : SpOk w s) (c : Nat) (hc : s.a = (c : Int)) (hlt : c < 240) (q : Nat) (hq : q = 16 + c) (d : Nat) (f : Fl) (hd : s.b = (d : Int)) (hf : (fieldsB s.T s.a)[d]? = some f) : Calls Tryz.prog 42 #[.agg #[.slice s.ao s.T.length s.cap, .slice s.so s.L.length s.sc, .int .i64 s.fn], .agg #[.int .i64 s.p, .int .u8 25, .int .i64 s.a, .int .i64 s.b]] w (Row w [q, f.ty]) := by
  have HCQ := hide hc
  clear hc
  have HDQ := hide hd
  clear hd
  have HX := hide (Bxs.new w s 25)
  have HOK := hide (hok.below (Bxs.new w s 25).bel)
  clear hok
  go_enter Tryz.func42, Tryz.ntmps42
  go_upto_region 1 with fail
  generalize ((w.alloc (.cells #[.slice s.ao s.T.length s.cap, .slice s.so s.L.length s.sc, .int .i64 s.fn] 25)).alloc (.cells #[.int .i64 s.p, .int .u8 25, .int .i64 s.a, .int .i64 s.b] 31)) = W1 at HX HOK ⊢
  have k0 := (unhide HX).i1
  have HFD := hide (refFieldsF (s := s) (W := W1.drew) ((unhide HOK).tab.below (belowD (Below.refl _ _) 1)) (unhide HOK).hz (unhide HOK).can.made)
  have HXd : Hid (Bxs w W1.drew s 25) := hide ((unhide HX).below (belowD (Below.refl _ _) 1))
  have hln := fields_len (unhide HOK).can.made s.a
  have hlt2 := (List.getElem?_eq_some_iff.1 hf).1
  have HCL := hide (rclass_any c q hlt hq)
  rw [unhide HCQ] at HFD hf hln hlt2
  go_upto_region 34 with fail
  refine wp_region_held_drew (S := (fun w' => w'.cell? ⟨w.heap.size, 0, none⟩ = some (.slice s.ao s.T.length s.cap) ∧ w'.cell? ⟨w.heap.size + 1, 2, none⟩ = some (.int .i64 (c : Int)) ∧ w'.cell? ⟨w.heap.size + 1, 3, none⟩ = some (.int .i64 (d : Int)))) (by kernel_rfl) ⟨(unhide HX).e0, by rw [← unhide HCQ]; exact (unhide HX).i2, by rw [← unhide HDQ]; exact (unhide HX).i3⟩ (fun hS => ?_)
  clear HX k0
  clear hq
  generalize W1.drew = Wd at HFD HXd hS ⊢
  refine wpAnyH_take (i := 0) (v := .pointer (some ⟨w.heap.size + 1, 2, none⟩)) rfl (by kernel_rfl) (by kernel_rfl) (by kernel_rfl) (fun _ _ _ h => h) (Or.inl ⟨by rfl, fun W h => by obtain ⟨h0, h1, h2⟩ := h; go_simp⟩) hS ?_
  refine wpAnyH_take (i := 1) (v := .int .i64 (c : Int)) rfl (by kernel_rfl) (by kernel_rfl) (by kernel_rfl) (fun _ _ _ h => h) (Or.inl ⟨by rfl, fun W h => by obtain ⟨h0, h1, h2⟩ := h; go_simp⟩) hS ?_
  refine wpAnyH_take (i := 3) (v := .pointer (some ⟨w.heap.size, 0, none⟩)) rfl (by kernel_rfl) (by kernel_rfl) (by kernel_rfl) (fun _ _ _ h => h) (Or.inl ⟨by rfl, fun W h => by obtain ⟨h0, h1, h2⟩ := h; go_simp⟩) hS ?_
  refine wpAnyH_take (i := 4) (v := .slice s.ao s.T.length s.cap) rfl (by kernel_rfl) (by kernel_rfl) (by kernel_rfl) (fun _ _ _ h => h) (Or.inl ⟨by rfl, fun W h => by obtain ⟨h0, h1, h2⟩ := h; go_simp⟩) hS ?_
  refine wpAnyH_take (i := 5) (v := .pointer (some ⟨w.heap.size + 1, 2, none⟩)) rfl (by kernel_rfl) (by kernel_rfl) (by kernel_rfl) (fun _ _ _ h => h) (Or.inl ⟨by rfl, fun W h => by obtain ⟨h0, h1, h2⟩ := h; go_simp⟩) hS ?_
  refine wpAnyH_take (i := 6) (v := .int .i64 (c : Int)) rfl (by kernel_rfl) (by kernel_rfl) (by kernel_rfl) (fun _ _ _ h => h) (Or.inl ⟨by rfl, fun W h => by obtain ⟨h0, h1, h2⟩ := h; go_simp⟩) hS ?_
  refine wpAnyH_take (i := 8) (v := .pointer (some ⟨w.heap.size + 1, 3, none⟩)) rfl (by kernel_rfl) (by kernel_rfl) (by kernel_rfl) (fun _ _ _ h => h) (Or.inl ⟨by rfl, fun W h => by obtain ⟨h0, h1, h2⟩ := h; go_simp⟩) hS ?_
  refine wpAnyH_take (i := 9) (v := .int .i64 (d : Int)) rfl (by kernel_rfl) (by kernel_rfl) (by kernel_rfl) (fun _ _ _ h => h) (Or.inl ⟨by rfl, fun W h => by obtain ⟨h0, h1, h2⟩ := h; go_simp⟩) hS ?_
  refine wpAnyH_ready (rs := [2]) (by kernel_rfl) (by simp) ?_
  refine AllReadyH.cons rfl (fun K hK => ?_) AllReadyH.nil
  go_simp
  go_wp2_with (go_at_call 66; refine (unhide HCL Wd).mono ?_; rintro e W2 ⟨rfl, hw2⟩)
  refine hK.out _ _ hS (fun hS2 => ?_)
  clear hK K hw2 W2 hS
  refine wpAnyH_ready (rs := [7]) (by kernel_rfl) (by simp) ?_
  refine AllReadyH.cons rfl (fun K hK => ?_) AllReadyH.nil
  go_simp
  go_wp2_with (go_at_call 41; refine (unhide HFD).mono ?_; rintro e W2 ⟨fa, fc, rfl, hF, hB2⟩)
  have HX2 := hide ((unhide HXd).below hB2)
  refine hK.out _ _ ⟨(unhide HX2).e0, by rw [← unhide HCQ]; exact (unhide HX2).i2, by rw [← unhide HDQ]; exact (unhide HX2).i3⟩ (fun hS3 => ?_)
  clear hK K hS2 hB2 HXd HFD
  obtain ⟨b, off, rfl, hfa⟩ := hF d f hf
  have c1 := hfa.c1
  generalize (fieldsB s.T (c : Int)).length = nl at hlt2 hln ⊢
  have j1 : (0 : Int) ≤ ((d : Nat) : Int) := by omega
  have j2 : ((d : Nat) : Int) < ((nl : Nat) : Int) := by omega
  clear hf hF hfa
  refine wpAnyH_ready (rs := [10]) (by kernel_rfl) (by simp) ?_
  refine AllReadyH.cons rfl (fun K hK => ?_) AllReadyH.nil
  go_simp
  refine hK.out _ _ hS3 (fun hS3 => ?_)
  clear hK K
  refine wpAnyH_ready (rs := [11]) (by kernel_rfl) (by simp) ?_
  refine AllReadyH.cons rfl (fun K hK => ?_) AllReadyH.nil
  go_simp
  refine hK.out _ _ hS3 (fun hS3 => ?_)
  clear hK K
  refine wpAnyH_ready (rs := [12]) (by kernel_rfl) (by simp) ?_
  refine AllReadyH.cons rfl (fun K hK => ?_) AllReadyH.nil
  go_simp
  refine hK.out _ _ hS3 (fun hS3 => ?_)
  clear hK K
  refine wpAnyH_ready (rs := [13]) (by kernel_rfl) (by simp) ?_
  refine AllReadyH.cons rfl (fun K hK => ?_) AllReadyH.nil
  go_simp
  refine hK.out _ _ ⟨cellAlloc _ hS3.1, cellAlloc _ hS3.2.1, cellAlloc _ hS3.2.2⟩ (fun hS4 => ?_)
  clear hK K hS3
  refine wpAnyH_ready (rs := [14]) (by kernel_rfl) (by simp) ?_
  refine AllReadyH.cons rfl (fun K hK => ?_) AllReadyH.nil
  go_simp
  refine hK.out _ _ hS4 (fun hS4 => ?_)
  clear hK K
  refine wpAnyH_done (by kernel_rfl) ?_ _
  go_wp2
  go_ret
  exact ⟨⟨_, _, rfl, pAt_lit W2 [q, f.ty] _⟩, (unhide HX2).bel.alloc (unhide HX2).bel.size _⟩

theorem rtk_all (s : Sp) (w : World) (hok : SpOk w s) : ∀ op, op < 34 → unkO s op = 0 → Calls Tryz.prog 42 #[.agg #[.slice s.ao s.T.length s.cap, .slice s.so s.L.length s.sc, .int .i64 s.fn], .agg #[.int .i64 s.p, .int .u8 (op : Int), .int .i64 s.a, .int .i64 s.b]] w (Row w (tkR s op)) :=
  cases34 (p := fun op => unkO s op = 0 → Calls Tryz.prog 42 #[.agg #[.slice s.ao s.T.length s.cap, .slice s.so s.L.length s.sc, .int .i64 s.fn], .agg #[.int .i64 s.p, .int .u8 (op : Int), .int .i64 s.a, .int .i64 s.b]] w (Row w (tkR s op))) (fun _ => rtk_0 s w) (fun _ => rtk_1 s w) (fun _ => rtk_2 s w) (fun _ => rtk_3 s w) (fun _ => rtk_4 s w) (fun _ => rtk_5 s w) (fun _ => rtk_6 s w) (fun _ => rtk_7 s w) (fun _ => rtk_8 s w) (fun _ => rtk_9 s w) (fun _ => rtk_10 s w) (fun _ => rtk_11 s w) (fun _ => rtk_12 s w) (fun _ => rtk_13 s w) (fun _ => rtk_14 s w) (fun _ => rtk_15 s w) (fun _ => rtk_16 s w) (fun _ => rtk_17 s w) (fun _ => rtk_18 s w) (fun _ => rtk_19 s w) (fun _ => rtk_20 s w) (fun hu => by obtain ⟨x, hx, ha, e, -⟩ := sg_in (unk_sig (s := s) rfl hu); show Calls _ _ _ _ (Row w (sgPs s.L s.a)); rw [e]; exact rtk_21x s w hok x _ ha hx) (fun _ => by obtain ⟨x, hx, ha, -, e⟩ := sg_in (L := s.L) (a := s.fn) ⟨hok.can.lo, hok.can.hi⟩; show Calls _ _ _ _ (Row w (rtD (sgRt s.L s.fn))); rw [e]; exact rtk_22x s w hok x _ ha hx) (fun _ => rtk_23 s w) (fun hu => by have := unk_fld (s := s) (op := 24) (Or.inl rfl) hu; obtain ⟨ha, hl⟩ := cls_ok hok (fields_class (by omega)); exact rtk_24x s w hok _ ha hl _ rfl) (fun hu => by have := unk_fld (s := s) (op := 25) (Or.inr rfl) hu; obtain ⟨f, hf, hb, e⟩ := fld_in this; obtain ⟨ha, hl⟩ := cls_ok hok (fields_class (by omega)); show Calls _ _ _ _ (Row w [16 + s.a.toNat, fldT s.T s.a s.b]); rw [e]; exact rtk_25x s w hok _ ha hl _ rfl _ f hb hf) (fun _ => rtk_26 s w) (fun _ => rtk_27 s w) (fun _ => rtk_28 s w) (fun _ => rtk_29 s w) (fun _ => rtk_30 s w) (fun _ => rtk_31 s w) (fun _ => rtk_32 s w) (fun _ => rtk_33 s w)

theorem rgv_all (s : Sp) (w : World) (hok : SpOk w s) : ∀ op, op < 34 → unkO s op = 0 → Calls Tryz.prog 44 #[.agg #[.slice s.ao s.T.length s.cap, .slice s.so s.L.length s.sc, .int .i64 s.fn], .agg #[.int .i64 s.p, .int .u8 (op : Int), .int .i64 s.a, .int .i64 s.b]] w (Row w (gvR s op)) :=
  cases34 (p := fun op => unkO s op = 0 → Calls Tryz.prog 44 #[.agg #[.slice s.ao s.T.length s.cap, .slice s.so s.L.length s.sc, .int .i64 s.fn], .agg #[.int .i64 s.p, .int .u8 (op : Int), .int .i64 s.a, .int .i64 s.b]] w (Row w (gvR s op))) (fun _ => rgv_0 s w) (fun _ => rgv_1 s w) (fun _ => rgv_2 s w) (fun _ => rgv_3 s w) (fun _ => rgv_4 s w) (fun _ => rgv_5 s w) (fun _ => rgv_6 s w) (fun _ => rgv_7 s w) (fun _ => rgv_8 s w) (fun _ => rgv_9 s w) (fun _ => rgv_10 s w) (fun _ => rgv_11 s w) (fun _ => rgv_12 s w) (fun _ => rgv_13 s w) (fun _ => rgv_14 s w) (fun _ => rgv_15 s w) (fun _ => rgv_16 s w) (fun _ => rgv_17 s w) (fun _ => rgv_18 s w) (fun _ => rgv_19 s w) (fun _ => rgv_20 s w) (fun hu => by obtain ⟨x, hx, ha, -, e⟩ := sg_in (unk_sig (s := s) rfl hu); show Calls _ _ _ _ (Row w (rtD (sgRt s.L s.a))); rw [e]; exact rgv_21x s w hok x _ ha hx) (fun _ => rgv_22 s w) (fun hu => by obtain ⟨ha, hl⟩ := cls_ok hok (unk_cls (s := s) (op := 23) (by decide) hu); exact rgv_23x s w hok _ ha hl _ rfl) (fun hu => by obtain ⟨f, hf, hb, e⟩ := fld_in (unk_fld (s := s) (op := 24) (Or.inl rfl) hu); show Calls _ _ _ _ (Row w (rtD (fldT s.T s.a s.b))); rw [e]; exact rgv_24x s w hok _ f hb hf) (fun _ => rgv_25 s w) (fun _ => rgv_26 s w) (fun _ => rgv_27 s w) (fun _ => rgv_28 s w) (fun _ => rgv_29 s w) (fun hu => by obtain ⟨ha, hl⟩ := cls_ok hok (unk_cls (s := s) (op := 30) (by decide) hu); exact rgv_30x s w hok _ ha hl _ rfl) (fun _ => rgv_31 s w) (fun _ => rgv_32 s w) (fun _ => rgv_33 s w)

end Go.Proofs.YtkodmpcnndbngaaGreatDoor

/-
  provisoref07's Operands and Counts; step's Takes and Gives: as the plain functions say; nothing old is turned.
-/
namespace Go.Proofs.YtkodmpcnndbngaaGreatDoor
open Go.RowKit
set_option maxRecDepth 20000

theorem unkO_21 {s : Sp} {op : Nat} (h : op = 21) : unkO s op = if 0 ≤ s.a ∧ s.a < (s.L.length : Int) then 0 else 71 := by unfold unkO; rw [if_neg (by omega), if_pos h]
theorem unkO_c {s : Sp} {op : Nat} (h : op = 23 ∨ op = 30 ∨ op = 31) : unkO s op = if 0 ≤ s.a ∧ s.a < (s.T.length : Int) then 0 else 72 := by unfold unkO; rw [if_neg (by omega), if_neg (by omega), if_pos h]
theorem unkO_f {s : Sp} {op : Nat} (h : op = 24 ∨ op = 25) : unkO s op = if 0 ≤ s.b ∧ s.b < ((fieldsB s.T s.a).length : Int) then 0 else 72 := by unfold unkO; rw [if_neg (by omega), if_neg (by omega), if_neg (by omega), if_pos h]
theorem unkO_n {s : Sp} {op : Nat} (ho : op < 34) (h : op ≠ 21) (h2 : ¬ (op = 23 ∨ op = 30 ∨ op = 31)) (h3 : ¬ (op = 24 ∨ op = 25)) : unkO s op = 0 := by unfold unkO; rw [if_neg (by omega), if_neg h, if_neg h2, if_neg h3]

set_option maxRecDepth 20000 in
set_option maxHeartbeats 8000000 in
theorem Operands_any (s : Sp) (w : World) (hok : SpOk w s) (h34 : s.op < 34) : Calls Tryz.prog 20 #[.agg #[.slice s.ao s.T.length s.cap, .slice s.so s.L.length s.sc, .int .i64 s.fn], .agg #[.int .i64 s.p, .int .u8 (s.op : Int), .int .i64 s.a, .int .i64 s.b]] w fun e w' => e = .returned (.int .i64 (unkD s)) ∧ Below w.heap.size w w' := by
  have HX := hide (Bxs.new w s s.op)
  have HOK := hide (hok.below (Bxs.new w s s.op).bel)
  have H34 := hide h34
  clear hok h34
  go_enter Tryz.func20, Tryz.ntmps20
  go_upto_region 1 with fail
  generalize ((w.alloc (.cells #[.slice s.ao s.T.length s.cap, .slice s.so s.L.length s.sc, .int .i64 s.fn] 25)).alloc (.cells #[.int .i64 s.p, .int .u8 (s.op : Int), .int .i64 s.a, .int .i64 s.b] 31)) = W1 at HX HOK ⊢
  have ko := (unhide HX).i1
  have ka := (unhide HX).i2
  have k0 := (unhide HX).e0
  have k1 := (unhide HX).e1
  by_cases h21 : s.op = 21
  · have t1 : (((s.op : Nat) : Int) == 21) = true := beq_t (by omega)
    have t24 : (((s.op : Nat) : Int) == 24) = false := beq_f (by omega)
    have t25 : (((s.op : Nat) : Int) == 25) = false := beq_f (by omega)
    have HE := hide (unkO_21 (s := s) h21)
    clear h21
    by_cases hi : 0 ≤ s.a ∧ s.a < (s.L.length : Int)
    · rw [if_pos hi] at HE
      have j0 : ¬ s.a < 0 := by omega
      have j1 : ¬ s.a ≥ ((s.L.length : Nat) : Int) := by omega
      clear hi
      go_wp2
      go_ret
      exact ⟨ret_int (unhide HE).symm, (unhide HX).bel⟩
    · rw [if_neg hi] at HE
      by_cases j0 : s.a < 0
      · clear hi
        go_wp2
        go_ret
        exact ⟨ret_int (unhide HE).symm, (unhide HX).bel⟩
      · have j1 : s.a ≥ ((s.L.length : Nat) : Int) := by omega
        clear hi
        go_wp2
        go_ret
        exact ⟨ret_int (unhide HE).symm, (unhide HX).bel⟩
  have t21 : (((s.op : Nat) : Int) == 21) = false := beq_f (by omega)
  have H21 := hide h21
  clear h21
  by_cases hc : s.op = 23 ∨ s.op = 30 ∨ s.op = 31
  · have t24 : (((s.op : Nat) : Int) == 24) = false := beq_f (by omega)
    have t25 : (((s.op : Nat) : Int) == 25) = false := beq_f (by omega)
    have HE := hide (unkO_c (s := s) hc)
    have HTEST : (((s.op : Nat) : Int) == 23) = true ∨ ((((s.op : Nat) : Int) == 23) = false ∧ (((s.op : Nat) : Int) == 30) = true) ∨ ((((s.op : Nat) : Int) == 23) = false ∧ (((s.op : Nat) : Int) == 30) = false ∧ (((s.op : Nat) : Int) == 31) = true) := by
      rcases hc with h | h | h
      · exact Or.inl (beq_t (by omega))
      · exact Or.inr (Or.inl ⟨beq_f (by omega), beq_t (by omega)⟩)
      · exact Or.inr (Or.inr ⟨beq_f (by omega), beq_f (by omega), beq_t (by omega)⟩)
    clear hc
    by_cases hi : 0 ≤ s.a ∧ s.a < (s.T.length : Int)
    · rw [if_pos hi] at HE
      have j0 : ¬ s.a < 0 := by omega
      have j1 : ¬ s.a ≥ ((s.T.length : Nat) : Int) := by omega
      clear hi
      rcases HTEST with t1 | ⟨t1, t2⟩ | ⟨t1, t2, t3⟩
      all_goals (
        go_wp2
        go_ret
        exact ⟨ret_int (unhide HE).symm, (unhide HX).bel⟩)
    · rw [if_neg hi] at HE
      by_cases j0 : s.a < 0
      · clear hi
        rcases HTEST with t1 | ⟨t1, t2⟩ | ⟨t1, t2, t3⟩
        all_goals (
          go_wp2
          go_ret
          exact ⟨ret_int (unhide HE).symm, (unhide HX).bel⟩)
      · have j1 : s.a ≥ ((s.T.length : Nat) : Int) := by omega
        clear hi
        rcases HTEST with t1 | ⟨t1, t2⟩ | ⟨t1, t2, t3⟩
        all_goals (
          go_wp2
          go_ret
          exact ⟨ret_int (unhide HE).symm, (unhide HX).bel⟩)
  have t23 : (((s.op : Nat) : Int) == 23) = false := beq_f (by omega)
  have t30 : (((s.op : Nat) : Int) == 30) = false := beq_f (by omega)
  have t31 : (((s.op : Nat) : Int) == 31) = false := beq_f (by omega)
  by_cases hf : s.op = 24 ∨ s.op = 25
  rotate_left
  · have t24 : (((s.op : Nat) : Int) == 24) = false := beq_f (by omega)
    have t25 : (((s.op : Nat) : Int) == 25) = false := beq_f (by omega)
    have HE := hide (unkO_n (s := s) (unhide H34) (unhide H21) hc hf)
    clear hc hf
    go_wp2
    go_ret
    exact ⟨ret_int (unhide HE).symm, (unhide HX).bel⟩
  have HE := hide (unkO_f (s := s) hf)
  have HTEST : (((s.op : Nat) : Int) == 24) = true ∨ ((((s.op : Nat) : Int) == 24) = false ∧ (((s.op : Nat) : Int) == 25) = true) := by
    rcases hf with h | h
    · exact Or.inl (beq_t (by omega))
    · exact Or.inr ⟨beq_f (by omega), beq_t (by omega)⟩
  clear hf hc
  by_cases hi : 0 ≤ s.a ∧ s.a < (s.T.length : Int)
  rotate_left
  · have HE2 : Hid (unkD s = 72) := hide (by
      refine (unhide HE).trans (if_neg ?_)
      intro h
      exact hi (fields_class (by omega)))
    by_cases j0 : s.a < 0
    · clear hi
      rcases HTEST with t1 | ⟨t1, t2⟩
      all_goals (
        go_wp2
        go_ret
        exact ⟨ret_int (unhide HE2).symm, (unhide HX).bel⟩)
    · have j1 : s.a ≥ ((s.T.length : Nat) : Int) := by omega
      clear hi
      rcases HTEST with t1 | ⟨t1, t2⟩
      all_goals (
        go_wp2
        go_ret
        exact ⟨ret_int (unhide HE2).symm, (unhide HX).bel⟩)
  have j0 : ¬ s.a < 0 := by omega
  have j1 : ¬ s.a ≥ ((s.T.length : Nat) : Int) := by omega
  clear hi
  have kb := (unhide HX).i3
  by_cases hb : s.b < 0
  · have HE2 : Hid (unkD s = 72) := hide ((unhide HE).trans (if_neg (by omega)))
    rcases HTEST with t1 | ⟨t1, t2⟩
    all_goals (
      go_upto_region 13 with fail
      go_quiet (fail)
      go_wp2
      go_ret
      exact ⟨ret_int (unhide HE2).symm, belowD (unhide HX).bel _⟩)
  have HFD := hide (refFieldsF (s := s) (W := W1.drew) ((unhide HOK).tab.below (belowD (Below.refl _ _) 1)) (unhide HOK).hz (unhide HOK).can.made)
  have HXd : Hid (Bxs w W1.drew s s.op) := hide ((unhide HX).below (belowD (Below.refl _ _) 1))
  have hln := fields_len (unhide HOK).can.made s.a
  obtain ⟨nl, HNL⟩ : ∃ nl, Hid ((fieldsB s.T s.a).length = nl) := ⟨_, hide rfl⟩
  rw [unhide HNL] at HE HFD hln
  obtain ⟨bv, HBV, HE2⟩ : ∃ bv : Bool, Hid (decide (s.b ≥ ((nl : Nat) : Int)) = bv) ∧ Hid (unkD s = if bv = true then 72 else 0) := ⟨_, hide rfl, hide (by
    refine (unhide HE).trans ?_
    by_cases h : s.b ≥ (nl : Int)
    · rw [if_neg (by omega), decide_eq_true h]; rfl
    · rw [if_pos (by omega), dec_f h]; rfl)⟩
  clear HE
  rcases HTEST with t1 | ⟨t1, t2⟩
  all_goals (
    go_upto_region 13 with fail
    refine wp_region_held_drew (S := fun w' => Bxs w w' s s.op) (by kernel_rfl) (unhide HXd) (fun hS => ?_)
    clear HX ko ka k0 k1 kb HOK
    generalize W1.drew = Wd at HFD HXd hS ⊢
    refine wpAnyH_take (i := 0) (v := .pointer (some ⟨w.heap.size + 1, 3, none⟩)) rfl (by kernel_rfl) (by kernel_rfl) (by kernel_rfl) (fun _ _ _ h => h) (Or.inl ⟨by kernel_rfl, fun W h => by have h0 := Bxs.e0 h; have h1 := Bxs.i2 h; have h2 := Bxs.i3 h; go_simp⟩) hS ?_
    refine wpAnyH_take (i := 1) (v := .int .i64 s.b) rfl (by kernel_rfl) (by kernel_rfl) (by kernel_rfl) (fun _ _ _ h => h) (Or.inl ⟨by kernel_rfl, fun W h => by have h0 := Bxs.e0 h; have h1 := Bxs.i2 h; have h2 := Bxs.i3 h; go_simp⟩) hS ?_
    refine wpAnyH_take (i := 2) (v := .bool false) rfl (by kernel_rfl) (by kernel_rfl) (by kernel_rfl) (fun _ _ _ h => h) (Or.inl ⟨by kernel_rfl, fun W h => by have h0 := Bxs.e0 h; have h1 := Bxs.i2 h; have h2 := Bxs.i3 h; go_simp⟩) hS ?_
    go_simp
    refine wpAnyH_take (i := 3) (v := .bool false) rfl (by kernel_rfl) (by kernel_rfl) (by kernel_rfl) (fun _ _ _ h => h) (Or.inl ⟨by kernel_rfl, fun W h => by have h0 := Bxs.e0 h; have h1 := Bxs.i2 h; have h2 := Bxs.i3 h; go_simp⟩) hS ?_
    refine wpAnyH_take (i := 4) (v := .pointer (some ⟨w.heap.size + 1, 3, none⟩)) rfl (by kernel_rfl) (by kernel_rfl) (by kernel_rfl) (fun _ _ _ h => h) (Or.inl ⟨by kernel_rfl, fun W h => by have h0 := Bxs.e0 h; have h1 := Bxs.i2 h; have h2 := Bxs.i3 h; go_simp⟩) hS ?_
    refine wpAnyH_take (i := 5) (v := .int .i64 s.b) rfl (by kernel_rfl) (by kernel_rfl) (by kernel_rfl) (fun _ _ _ h => h) (Or.inl ⟨by kernel_rfl, fun W h => by have h0 := Bxs.e0 h; have h1 := Bxs.i2 h; have h2 := Bxs.i3 h; go_simp⟩) hS ?_
    go_simp
    refine wpAnyH_take (i := 6) (v := .pointer (some ⟨w.heap.size, 0, none⟩)) rfl (by kernel_rfl) (by kernel_rfl) (by kernel_rfl) (fun _ _ _ h => h) (Or.inl ⟨by kernel_rfl, fun W h => by have h0 := Bxs.e0 h; have h1 := Bxs.i2 h; have h2 := Bxs.i3 h; go_simp⟩) hS ?_
    refine wpAnyH_take (i := 7) (v := .slice s.ao s.T.length s.cap) rfl (by kernel_rfl) (by kernel_rfl) (by kernel_rfl) (fun _ _ _ h => h) (Or.inl ⟨by kernel_rfl, fun W h => by have h0 := Bxs.e0 h; have h1 := Bxs.i2 h; have h2 := Bxs.i3 h; go_simp⟩) hS ?_
    go_simp
    refine wpAnyH_take (i := 8) (v := .pointer (some ⟨w.heap.size + 1, 2, none⟩)) rfl (by kernel_rfl) (by kernel_rfl) (by kernel_rfl) (fun _ _ _ h => h) (Or.inl ⟨by kernel_rfl, fun W h => by have h0 := Bxs.e0 h; have h1 := Bxs.i2 h; have h2 := Bxs.i3 h; go_simp⟩) hS ?_
    refine wpAnyH_take (i := 9) (v := .int .i64 s.a) rfl (by kernel_rfl) (by kernel_rfl) (by kernel_rfl) (fun _ _ _ h => h) (Or.inl ⟨by kernel_rfl, fun W h => by have h0 := Bxs.e0 h; have h1 := Bxs.i2 h; have h2 := Bxs.i3 h; go_simp⟩) hS ?_
    refine wpAnyH_ready (rs := [10]) (by kernel_rfl) (by simp) ?_
    refine AllReadyH.cons rfl (fun K hK => ?_) AllReadyH.nil
    go_simp
    go_wp2_with (go_at_call 41; refine (unhide HFD).mono ?_; rintro e W2 ⟨fa, fc, rfl, hF, hB2⟩)
    have HX2 := hide ((unhide HXd).below hB2)
    refine hK.out _ _ (unhide HX2) (fun hS2 => ?_)
    clear hK K hS hB2 HXd HFD hF
    have hbv := unhide HBV
    refine wpAnyH_ready (rs := [11]) (by kernel_rfl) (by simp) ?_
    refine AllReadyH.cons rfl (fun K hK => ?_) AllReadyH.nil
    go_simp
    refine hK.out _ _ hS2 (fun hS2 => ?_)
    clear hK K
    cases bv
    · have jb : ¬ s.b ≥ ((nl : Nat) : Int) := by simpa using hbv
      clear hbv
      refine wpAnyH_ready (rs := [12]) (by kernel_rfl) (by simp) ?_
      refine AllReadyH.cons rfl (fun K hK => ?_) AllReadyH.nil
      go_simp
      refine hK.out _ _ hS2 (fun hS2 => ?_)
      clear hK K
      refine wpAnyH_ready (rs := [13]) (by kernel_rfl) (by simp) ?_
      refine AllReadyH.cons rfl (fun K hK => ?_) AllReadyH.nil
      go_simp
      refine hK.out _ _ hS2 (fun hS2 => ?_)
      clear hK K
      refine wpAnyH_done (by kernel_rfl) ?_ _
      go_wp2
      go_ret
      exact ⟨ret_int (unhide HE2).symm, (unhide HX2).bel⟩
    · have jb : s.b ≥ ((nl : Nat) : Int) := by simpa using hbv
      clear hbv
      refine wpAnyH_ready (rs := [12]) (by kernel_rfl) (by simp) ?_
      refine AllReadyH.cons rfl (fun K hK => ?_) AllReadyH.nil
      go_simp
      refine hK.out _ _ hS2 (fun hS2 => ?_)
      clear hK K
      refine wpAnyH_ready (rs := [13]) (by kernel_rfl) (by simp) ?_
      refine AllReadyH.cons rfl (fun K hK => ?_) AllReadyH.nil
      go_simp
      refine hK.out _ _ hS2 (fun hS2 => ?_)
      clear hK K
      refine wpAnyH_done (by kernel_rfl) ?_ _
      go_wp2
      go_ret
      exact ⟨ret_int (unhide HE2).symm, (unhide HX2).bel⟩)
end Go.Proofs.YtkodmpcnndbngaaGreatDoor

/-
  What is said of a spot is said of one with copies of its table and signatures; the document's Takes and Gives have as many entries as the program's; plain.
-/
namespace Go.Proofs.YtkodmpcnndbngaaGreatDoor
open Go.RowKit
set_option maxRecDepth 20000

/-- A spot with copies of the table and the signatures of another one. -/
structure SameSp (s t : Sp) : Prop where
  tab : SameT s.T t.T
  sgs : SameL s.L t.L
  fn : t.fn = s.fn
  f : t.f = s.f
  op : t.op = s.op
  a : t.a = s.a
  b : t.b = s.b
theorem SameL.at {L M : List Sg} (h : SameL L M) (i : Nat) : (∃ x y, L[i]? = some x ∧ M[i]? = some y ∧ y.ps = x.ps ∧ y.rt = x.rt) ∨ (L[i]? = none ∧ M[i]? = none) := by
  by_cases hi : i < L.length
  · have h1 := List.getElem?_eq_getElem hi
    have h2 := List.getElem?_eq_getElem (show i < M.length by rw [h.1]; exact hi)
    exact Or.inl ⟨_, _, h1, h2, (h.2 _ _ _ h1 h2).ps, (h.2 _ _ _ h1 h2).rt⟩
  · exact Or.inr ⟨List.getElem?_eq_none (by omega), List.getElem?_eq_none (by rw [h.1]; omega)⟩
theorem SameL.sig {L M : List Sg} (h : SameL L M) (n : Nat) : M.all (sigD n) = L.all (sigD n) := by
  have key : ∀ {A B : List Sg}, SameL A B → A.all (sigD n) = true → B.all (sigD n) = true := by
    intro A B hAB hA
    rw [List.all_eq_true] at hA ⊢
    intro y hy
    obtain ⟨i, hi, rfl⟩ := List.mem_iff_getElem.1 hy
    rcases hAB.at i with ⟨x, y, h1, h2, hp, hr⟩ | ⟨_, h2⟩
    · rw [List.getElem?_eq_getElem hi] at h2
      injection h2 with h2
      rw [h2]
      have := hA x (List.mem_of_getElem? h1)
      unfold sigD at this ⊢
      rw [hp, hr]; exact this
    · rw [List.getElem?_eq_getElem hi] at h2; exact absurd h2 (by simp)
  have hs : SameL M L := ⟨h.1.symm, fun i x y hx hy => ⟨(h.2 i y x hy hx).ps.symm, (h.2 i y x hy hx).rt.symm⟩⟩
  cases ha : L.all (sigD n) with
  | true => exact key h ha
  | false =>
    cases hb : M.all (sigD n) with
    | false => rfl
    | true => rw [key hs hb] at ha; exact absurd ha (by simp)
theorem SameT.made' {T G : List Cl} (h : SameT T G) : madeD G = madeD T := by
  unfold madeD
  rw [h.1]
  congr 1
  funext c
  rw [h.fault]
theorem canD_same {T G : List Cl} {L M : List Sg} (h : SameT T G) (hl : SameL L M) (fn : Int) : canD G M fn = canD T L fn := by
  unfold canD
  rw [h.made', hl.1, h.1, hl.sig]
theorem SameSp.sgPs {s t : Sp} (h : SameSp s t) (a : Int) : sgPs t.L a = sgPs s.L a := by
  unfold Go.Proofs.YtkodmpcnndbngaaGreatDoor.sgPs
  rcases h.sgs.at a.toNat with ⟨x, y, h1, h2, hp, hr⟩ | ⟨h1, h2⟩
  · rw [h1, h2]; exact hp
  · rw [h1, h2]
theorem SameSp.sgRt {s t : Sp} (h : SameSp s t) (a : Int) : sgRt t.L a = sgRt s.L a := by
  unfold Go.Proofs.YtkodmpcnndbngaaGreatDoor.sgRt
  rcases h.sgs.at a.toNat with ⟨x, y, h1, h2, hp, hr⟩ | ⟨h1, h2⟩
  · rw [h1, h2]; exact hr
  · rw [h1, h2]
theorem SameSp.fld {s t : Sp} (h : SameSp s t) (a b : Int) : fldT t.T a b = fldT s.T a b := by
  unfold fldT
  rw [h.tab.fields]
theorem SameSp.unk {s t : Sp} (h : SameSp s t) (op : Nat) : unkO t op = unkO s op := by
  unfold unkO
  rw [h.a, h.b, h.sgs.1, h.tab.1, h.tab.fields]
theorem SameSp.tk {s t : Sp} (h : SameSp s t) (op : Nat) : tkO t op = tkO s op := by
  unfold tkO
  rw [h.a, h.b, h.fn, h.sgPs, h.sgRt, h.fld]
theorem SameSp.gv {s t : Sp} (h : SameSp s t) (l : List Nat) (op : Nat) : gvO t l op = gvO s l op := by
  unfold gvO
  rw [h.a, h.b, h.f, h.sgRt, h.fld]
theorem SameSp.al {s t : Sp} (h : SameSp s t) (l : List Nat) (op : Nat) : alO t l op = alO s l op := by
  unfold alO
  rw [h.a, h.f]
theorem SameSp.cnt {s t : Sp} (h : SameSp s t) : cntD t = cntD s := by
  unfold cntD unkD tkD gvD
  rw [canD_same h.tab h.sgs, h.fn, h.op, h.unk, h.tk, h.gv]

theorem scan_stored {n : Nat} {all : List Fl} : ∀ {rest pre : List Fl}, scanD n all pre rest = 0 → ∀ f ∈ rest, storedD n f.ty = true
  | [], _, _, f, hf => by simp at hf
  | g :: rest, pre, h, f, hf => by
    unfold scanD at h
    by_cases h1 : nameB g.nm = false
    · rw [if_pos h1] at h; exact absurd h (by decide)
    rw [if_neg h1] at h
    by_cases h2 : (hasD all g.nm || hasD pre g.nm) = true
    · rw [if_pos h2] at h; exact absurd h (by decide)
    rw [if_neg h2] at h
    by_cases h3 : storedD n g.ty = false
    · rw [if_pos h3] at h; exact absurd h (by decide)
    rw [if_neg h3] at h
    rcases List.mem_cons.1 hf with rfl | hf
    · simpa using h3
    · exact scan_stored h f hf
theorem fields_stored {T : List Cl} (hm : madeD T = true) {a : Int} {f : Fl} (hf : f ∈ fieldsB T a) : storedD T.length f.ty = true := by
  unfold fieldsB at hf
  obtain ⟨c, hc, hfc⟩ := List.mem_flatMap.1 hf
  have hlt := lineB_lt T T.length T.length a (Nat.le_refl _) c (List.mem_reverse.1 hc)
  have hx := List.getElem?_eq_getElem hlt
  unfold fsD at hfc
  rw [hx] at hfc
  exact scan_stored (faultD_zero hx (madeD_all hm c hlt)).scan f hfc
theorem stored_pos {n t : Nat} (h : storedD n t = true) : t ≠ 0 ∧ validD n t = true := by
  unfold storedD at h
  simp only [Bool.and_eq_true, decide_eq_true_eq] at h
  exact ⟨h.1.2, h.1.1⟩
theorem fld_stored {T : List Cl} (hm : madeD T = true) {a b : Int} (h : 0 ≤ b ∧ b < ((fieldsB T a).length : Int)) : storedD T.length (fldT T a b) = true := by
  obtain ⟨f, hf, -, e⟩ := fld_in h
  rw [e]
  exact fields_stored hm (List.mem_of_getElem? hf)
theorem tkR_len (s : Sp) : ∀ op, op < 34 → (tkR s op).length = (tkO s op).length :=
  cases34 (p := fun op => (tkR s op).length = (tkO s op).length) rfl rfl rfl rfl rfl rfl rfl rfl rfl rfl rfl rfl rfl rfl rfl rfl rfl rfl rfl rfl rfl rfl rfl rfl rfl rfl rfl rfl rfl rfl rfl rfl rfl rfl
theorem rtD_pos {t : Nat} (h : t ≠ 0) : rtD t = [t] := by unfold rtD; rw [if_neg h]
theorem gvR_len (s : Sp) (hm : madeD s.T = true) (tk : List Nat) : ∀ op, op < 34 → unkO s op = 0 → (gvR s op).length = (gvO s tk op).length :=
  cases34 (p := fun op => unkO s op = 0 → (gvR s op).length = (gvO s tk op).length) (fun _ => rfl) (fun _ => rfl) (fun _ => rfl) (fun _ => rfl) (fun _ => rfl) (fun _ => rfl) (fun _ => rfl) (fun _ => rfl) (fun _ => rfl) (fun _ => rfl) (fun _ => rfl) (fun _ => rfl) (fun _ => rfl) (fun _ => rfl) (fun _ => rfl) (fun _ => rfl) (fun _ => rfl) (fun _ => rfl) (fun _ => rfl) (fun _ => rfl) (fun _ => rfl) (fun _ => rfl) (fun _ => rfl) (fun _ => rfl) (fun hu => by
    show (rtD (fldT s.T s.a s.b)).length = 1
    rw [rtD_pos (stored_pos (fld_stored hm (unk_fld (s := s) (op := 24) (Or.inl rfl) hu))).1]
    rfl) (fun _ => rfl) (fun _ => rfl) (fun _ => rfl) (fun _ => rfl) (fun _ => rfl) (fun _ => rfl) (fun _ => rfl) (fun _ => rfl) (fun _ => rfl)
end Go.Proofs.YtkodmpcnndbngaaGreatDoor

/-
  provisoref07.Counts; step's Takes and Gives: as the plain functions say; nothing old is turned.
-/
namespace Go.Proofs.YtkodmpcnndbngaaGreatDoor
open Go.RowKit
set_option maxRecDepth 20000

theorem Bxs.env {w W : World} {s : Sp} {op : Nat} (h : Bxs w W s op) : W.rangeAt w.heap.size 0 [.slice s.ao s.T.length s.cap, .slice s.so s.L.length s.sc, .int .i64 s.fn] := fun j v hv => by
  rw [Nat.zero_add]
  match j, hv with
  | 0, hv => simp at hv; rw [← hv]; exact h.e0
  | 1, hv => simp at hv; rw [← hv]; exact h.e1
  | 2, hv => simp at hv; rw [← hv]; exact h.e2
theorem Bxs.ins {w W : World} {s : Sp} {op : Nat} (h : Bxs w W s op) : W.rangeAt (w.heap.size + 1) 0 [.int .i64 s.p, .int .u8 (op : Int), .int .i64 s.a, .int .i64 s.b] := fun j v hv => by
  rw [Nat.zero_add]
  match j, hv with
  | 0, hv => simp at hv; rw [← hv]; exact h.i0
  | 1, hv => simp at hv; rw [← hv]; exact h.i1
  | 2, hv => simp at hv; rw [← hv]; exact h.i2
  | 3, hv => simp at hv; rw [← hv]; exact h.i3

set_option maxHeartbeats 1000000 in
theorem Takes_any (s : Sp) (hf : s.f = frZ) (w : World) (hT : TabAt w s.ao s.T) (hcap : s.T.length ≤ s.cap) (hW : WordsAt w) (hz : s.T.length * 48 ≤ 140737488351232) (hL : SgsAt w s.so s.L) (hzl : s.L.length * 32 ≤ 140737488351232) (hw : WidAt w) (ho : s.op < 256) (ha : -9223372036854775808 ≤ s.a ∧ s.a ≤ 9223372036854775807) (hb : -9223372036854775808 ≤ s.b ∧ s.b ≤ 9223372036854775807) :
    Calls Tryz.prog 11 #[.agg #[.slice s.ao s.T.length s.cap, .slice s.so s.L.length s.sc, .int .i64 s.fn], .agg #[.int .i64 s.p, .int .u8 (s.op : Int), .int .i64 s.a, .int .i64 s.b]] w fun e w' => e = .returned (.tuple #[.int .i64 ((cntD s).1 : Int), .int .i64 (cntD s).2.2]) ∧ Below w.heap.size w w' := by
  have HX := hide (Bxs.new w s s.op)
  have hB := (Bxs.new w s s.op).bel
  have HCB := hide (counted_any s hf _ (hT.below hB) hcap (hW.below hB) hz (hL.below hB) hzl (hw.below hB) ho ha hb)
  clear hT hz hL hzl ho ha hb hf hw hcap hW hB
  go_enter Tryz.func11, Tryz.ntmps11
  go_upto_region 1 with fail
  generalize ((w.alloc (.cells #[.slice s.ao s.T.length s.cap, .slice s.so s.L.length s.sc, .int .i64 s.fn] 25)).alloc (.cells #[.int .i64 s.p, .int .u8 (s.op : Int), .int .i64 s.a, .int .i64 s.b] 31)) = W1 at HX HCB ⊢
  have k0 := (unhide HX).e0
  have k1 := (unhide HX).e1
  have k2 := (unhide HX).e2
  have k3 := (unhide HX).i0
  have k4 := (unhide HX).i2
  have k5 := (unhide HX).i3
  have k6 := (unhide HX).i1
  have HE : Hid (cntV (cntD s) = .tuple #[.int .i64 ((cntD s).1 : Int), .int .i64 ((cntD s).2.1 : Int), .int .i64 (cntD s).2.2]) := hide rfl
  go_wp2_with fail
  refine (unhide HCB).mono ?_
  rintro e W2 ⟨rfl, hB2⟩
  have HX2 := hide ((unhide HX).below hB2)
  clear hB2 HX HCB k0 k1 k2 k3 k4 k5 k6 W1
  rw [unhide HE]
  go_wp2
  go_ret2
  exact ⟨rfl, (unhide HX2).bel⟩

set_option maxHeartbeats 1000000 in
theorem Gives_any (s : Sp) (hf : s.f = frZ) (w : World) (hT : TabAt w s.ao s.T) (hcap : s.T.length ≤ s.cap) (hW : WordsAt w) (hz : s.T.length * 48 ≤ 140737488351232) (hL : SgsAt w s.so s.L) (hzl : s.L.length * 32 ≤ 140737488351232) (hw : WidAt w) (ho : s.op < 256) (ha : -9223372036854775808 ≤ s.a ∧ s.a ≤ 9223372036854775807) (hb : -9223372036854775808 ≤ s.b ∧ s.b ≤ 9223372036854775807) :
    Calls Tryz.prog 12 #[.agg #[.slice s.ao s.T.length s.cap, .slice s.so s.L.length s.sc, .int .i64 s.fn], .agg #[.int .i64 s.p, .int .u8 (s.op : Int), .int .i64 s.a, .int .i64 s.b]] w fun e w' => e = .returned (.tuple #[.int .i64 ((cntD s).2.1 : Int), .int .i64 (cntD s).2.2]) ∧ Below w.heap.size w w' := by
  have HX := hide (Bxs.new w s s.op)
  have hB := (Bxs.new w s s.op).bel
  have HCB := hide (counted_any s hf _ (hT.below hB) hcap (hW.below hB) hz (hL.below hB) hzl (hw.below hB) ho ha hb)
  clear hT hz hL hzl ho ha hb hf hw hcap hW hB
  go_enter Tryz.func12, Tryz.ntmps12
  go_upto_region 1 with fail
  generalize ((w.alloc (.cells #[.slice s.ao s.T.length s.cap, .slice s.so s.L.length s.sc, .int .i64 s.fn] 25)).alloc (.cells #[.int .i64 s.p, .int .u8 (s.op : Int), .int .i64 s.a, .int .i64 s.b] 31)) = W1 at HX HCB ⊢
  have k0 := (unhide HX).e0
  have k1 := (unhide HX).e1
  have k2 := (unhide HX).e2
  have k3 := (unhide HX).i0
  have k4 := (unhide HX).i2
  have k5 := (unhide HX).i3
  have k6 := (unhide HX).i1
  have HE : Hid (cntV (cntD s) = .tuple #[.int .i64 ((cntD s).1 : Int), .int .i64 ((cntD s).2.1 : Int), .int .i64 (cntD s).2.2]) := hide rfl
  go_wp2_with fail
  refine (unhide HCB).mono ?_
  rintro e W2 ⟨rfl, hB2⟩
  have HX2 := hide ((unhide HX).below hB2)
  clear hB2 HX HCB k0 k1 k2 k3 k4 k5 k6 W1
  rw [unhide HE]
  go_wp2
  go_ret2
  exact ⟨rfl, (unhide HX2).bel⟩

end Go.Proofs.YtkodmpcnndbngaaGreatDoor
