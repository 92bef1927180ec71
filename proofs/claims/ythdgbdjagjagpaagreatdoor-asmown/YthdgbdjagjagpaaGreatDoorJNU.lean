/-
  Texts of contracts and plain lemmas, one behind another; each says at its head what it holds.
-/
import Derived.Test.YthdgbdjagjagpaaGreatDoorJPR
import Derived.Test.YthdgbdjagjagpaaGreatDoorWn
import Derived.Test.YthdgbdjagjagpaaGreatDoorLayTP
import Derived.Deep.DeepCutAuto
import Derived.Test.YthdgbdjagjagpaaGreatDoorLayAto
import Derived.Lib.AtoiAllCases
import Derived.Test.YthdgbdjagjagpaaGreatDoorLayCS
import Derived.Test.YthdgbdjagjagpaaGreatDoorLayCut
import Derived.Test.YthdgbdjagjagpaaGreatDoorLayFF
import Derived.Shelf.Strings.FieldsFuncGrows
/-
  asm's words that are numbers: isNumber, number. Conditions: lengths fit.
-/
namespace Go.Proofs.YthdgbdjagjagpaaGreatDoor
open Go.RowKit
set_option maxRecDepth 20000
set_option linter.unusedVariables false
set_option linter.unusedSimpArgs false

/-- A word without its sign. -/
def trimB (s : ByteArray) : ByteArray := ⟨(Lib.trimPrefix s.data.toList [45]).toArray⟩
def allDig (d : ByteArray) (k : Nat) : Bool := (List.range k).all fun j => digB (byteAt d j)
theorem allDig_succ (d : ByteArray) (k : Nat) : allDig d (k + 1) = (allDig d k && digB (byteAt d k)) := by unfold allDig; rw [List.range_succ, List.all_append]; simp
def zeroB (s : ByteArray) : Bool := s.toList == [48]
def numB (s : ByteArray) : Bool := decide (0 < (trimB s).size) && !(decide (byteAt (trimB s) 0 = 48) && !zeroB s) && allDig (trimB s) (trimB s).size
theorem TrimPrefix_any (s : ByteArray) (w : World) : Calls Tryz.prog 123 #[.string s, .string ⟨#[45]⟩] w fun e w' => e = .returned (.string (trimB s)) ∧ w' = w :=
  Any.strings_TrimPrefix Tryz.laysTP s ⟨#[45]⟩ w
theorem allDig_no {d : ByteArray} : ∀ {n k : Nat}, k < n → digB (byteAt d k) = false → allDig d n = false := by
  intro n k hk h
  unfold allDig
  rw [List.all_eq_false]
  exact ⟨k, List.mem_range.2 hk, by rw [h]; simp⟩
set_option maxHeartbeats 1000000 in
theorem isNumber_any (s : ByteArray) (w : World) (hs : (trimB s).size ≤ 1048576) :
    Calls Tryz.prog 105 #[.string s] w fun e w' => e = .returned (.bool (numB s)) ∧ w' = w := by
  have HT := hide (TrimPrefix_any s w)
  obtain ⟨r, HR⟩ : ∃ r, Hid (numB s = r) := ⟨_, hide rfl⟩
  rw [unhide HR]
  unfold numB at HR
  generalize trimB s = d at HT HR hs
  by_cases h0 : d.size = 0
  · have e0 : d = ⟨#[]⟩ := ByteArray.ext (Array.eq_empty_of_size_eq_zero h0)
    have HF : Hid (r = false) := hide (by rw [← unhide HR, h0]; rfl)
    subst e0
    clear HR h0
    go_enter Tryz.func105, Tryz.ntmps105
    go_wp2_with (go_at_call 123; refine (unhide HT).mono ?_; rintro e w' ⟨rfl, rfl⟩)
    go_ret
    exact ⟨ret_bool (by rw [unhide HF]), rfl⟩
  have h1 : 0 < d.size := by omega
  have hne : ¬ d.toList = [] := by
    rw [ByteArray.toList_eq]
    intro h
    have h2 : d.data.toList.length = 0 := by rw [h]; rfl
    have h3 : d.data.toList.length = d.size := by simp
    omega
  have t0 : d.toList.isEmpty = false := by
    cases h : d.toList.isEmpty with
    | false => rfl
    | true => exact absurd (List.isEmpty_iff.1 h) hne
  have e0 := byteAt_eq d 0 h1
  have i0 : (0 : Int) < (d.size : Int) := by omega
  by_cases hz : byteAt d 0 = 48 ∧ zeroB s = false
  · have HF : Hid (r = false) := hide (by rw [← unhide HR, hz.1, hz.2]; simp)
    have t1 : (((d[0]'h1).toNat : Int) == 48) = true := by have h := hz.1; rw [e0] at h; exact beq_t h
    have t2 : (s.toList == [48]) = false := hz.2
    clear HR h0 hz e0
    go_enter Tryz.func105, Tryz.ntmps105
    go_wp2_with (go_at_call 123; refine (unhide HT).mono ?_; rintro e w' ⟨rfl, rfl⟩)
    go_ret
    exact ⟨ret_bool (by rw [unhide HF]), rfl⟩
  have HZ : Hid (r = allDig d d.size) := hide (by
    rw [← unhide HR, decide_eq_true h1]
    by_cases h8 : byteAt d 0 = 48
    · have : zeroB s = true := by
        cases h : zeroB s with
        | true => rfl
        | false => exact absurd ⟨h8, h⟩ hz
      rw [this]; simp
    · rw [decide_eq_false h8]; simp)
  have HQ : (((d[0]'h1).toNat : Int) == 48) = false ∨ (((d[0]'h1).toNat : Int) == 48) = true ∧ (s.toList == [48]) = true := by
    by_cases h8 : byteAt d 0 = 48
    · refine Or.inr ⟨by rw [e0] at h8; exact beq_t h8, ?_⟩
      cases h : zeroB s with
      | true => exact h
      | false => exact absurd ⟨h8, h⟩ hz
    · exact Or.inl (by rw [e0] at h8; exact beq_f h8)
  clear HR h0 hz e0
  go_enter Tryz.func105, Tryz.ntmps105
  go_upto_region 2 with (go_at_call 123; refine (unhide HT).mono ?_; rintro e w' ⟨rfl, rfl⟩)
  go_cut [17] (fun v wx => v = .bool false ∧ Hid (wx = w'))
  case first =>
    rcases HQ with t1 | ⟨t1, t2⟩
    · go_wp2
      go_meet
      exact ⟨rfl, hide rfl⟩
    · go_wp2
      go_meet
      exact ⟨rfl, hide rfl⟩
  case rest =>
  obtain ⟨rfl, HWX⟩ := hcut
  rw [unhide HWX]
  clear HWX HQ
  go_wp2
  go_loop [4, 20] (fun u i => ∃ k : Nat, k ≤ d.size ∧ i = .int .i64 (k : Int) ∧ Hid (allDig d k = true)) (fun _ i => d.size - (intOf i).toNat)
  case atStart => exact ⟨0, by omega, rfl, hide rfl⟩
  case round =>
    obtain ⟨k, hk, rfl, HK⟩ := hrel
    by_cases hlt : k < d.size
    · have j1 : ((k : Nat) : Int) < ((d.size : Nat) : Int) := by omega
      have ek := byteAt_eq d k hlt
      cases hd : digB (byteAt d k) with
      | true =>
        have HK2 : Hid (allDig d (k + 1) = true) := hide (by rw [allDig_succ, unhide HK, hd]; rfl)
        have hd2 := of_decide_eq_true hd
        rw [ek] at hd2
        obtain ⟨a1, a2⟩ := hd2
        have b1 : ¬ ((d[k].toNat : Nat) : Int) < 48 := by omega
        have b2 : ¬ ((d[k].toNat : Nat) : Int) > 57 := by omega
        clear hd ek HK a1 a2
        go_wp2
        go_round
        case rel => exact ⟨k + 1, by omega, by go_num, HK2⟩
        case measure => simp [intOf]; omega
      | false =>
        have HF : Hid (r = false) := hide (by rw [unhide HZ]; exact allDig_no hlt hd)
        have hd2 := of_decide_eq_false hd
        rw [ek] at hd2
        clear hd ek HK HZ
        by_cases a1 : ((d[k].toNat : Nat) : Int) < 48
        · clear hd2
          go_wp2
          go_ret
          exact ⟨ret_bool (by rw [unhide HF]), rfl⟩
        · have b2 : ((d[k].toNat : Nat) : Int) > 57 := by omega
          clear hd2
          go_wp2
          go_ret
          exact ⟨ret_bool (by rw [unhide HF]), rfl⟩
    · obtain rfl : k = d.size := by omega
      have HF : Hid (r = true) := hide (by rw [unhide HZ]; exact unhide HK)
      clear HZ HK
      go_wp2
      go_ret
      exact ⟨ret_bool (by rw [unhide HF]), rfl⟩
end Go.Proofs.YthdgbdjagjagpaaGreatDoor

/-
  asm's number: a word's number by Atoi. Conditions: lengths fit; strconv.ErrRange lies in its cell.
-/
namespace Go.Proofs.YthdgbdjagjagpaaGreatDoor
open Go.RowKit
set_option maxRecDepth 20000
set_option linter.unusedVariables false
set_option linter.unusedSimpArgs false

def RgAt (w : World) : Prop := ∃ ev, w.cell? ⟨7, 0, none⟩ = some ev ∧ (ev = .nilIface ∨ ∃ te pe, ev = .iface te pe)
theorem RgAt.below {w w' : World} (h : RgAt w) (hb : Below w.heap.size w w') : RgAt w' := by
  obtain ⟨ev, h1, h2⟩ := h
  exact ⟨ev, (hb.cell (p := ⟨7, 0, none⟩) (World.block_lt_of_cell? w _ h1)).trans h1, h2⟩
def isDg (x : UInt8) : Prop := 48 ≤ x.toNat ∧ x.toNat ≤ 57
/-- The number that a word is. -/
def valN (s : ByteArray) : Int := match Lib.atoiAll s.data.toList with | .ok v => v | _ => Lib.atoiSat s.data.toList
theorem dig_all {d : ByteArray} (h : allDig d d.size = true) : ∀ x ∈ d.data.toList, isDg x := by
  intro x hx
  obtain ⟨j, hj, rfl⟩ := List.mem_iff_getElem.1 hx
  unfold allDig at h
  rw [List.all_eq_true] at h
  have hs : j < d.size := by simpa using hj
  have h1 := h j (List.mem_range.2 hs)
  unfold digB at h1
  have h2 := of_decide_eq_true h1
  unfold byteAt at h2
  rw [List.getElem?_eq_getElem hj] at h2
  simp only [Option.getD_some] at h2
  unfold isDg
  omega
theorem parse_dig : ∀ (l : List UInt8) (n : Nat), (∀ x ∈ l, isDg x) → Lib.parseUint10 n l ≠ .syntax
  | [], n, _ => by simp [Lib.parseUint10]
  | c :: r, n, h => by
    have hc : 48 ≤ c.toNat ∧ c.toNat ≤ 57 := h c List.mem_cons_self
    unfold Lib.parseUint10
    rw [if_pos hc]
    split
    · simp
    · split
      · simp
      · exact parse_dig r _ (fun x hx => h x (List.mem_cons_of_mem _ hx))
theorem signless_dig {e : Lib.NumEnd Nat} (h : e ≠ .syntax) : Lib.signless e ≠ .syntax := by
  cases e with
  | «syntax» => exact absurd rfl h
  | range => simp [Lib.signless]
  | ok u => simp only [Lib.signless]; split <;> simp
theorem signed_dig {e : Lib.NumEnd Nat} (h : e ≠ .syntax) : Lib.signed e ≠ .syntax := by
  cases e with
  | «syntax» => exact absurd rfl h
  | range => simp [Lib.signed]
  | ok u => simp only [Lib.signed]; split <;> simp
theorem mag_dig {l : List UInt8} (h0 : l ≠ []) (h : ∀ x ∈ l, isDg x) : Lib.parseMag l ≠ .syntax := by
  unfold Lib.parseMag
  rw [if_neg h0]
  exact parse_dig l 0 h
theorem num_word {s : ByteArray} (h : numB s = true) : Lib.atoiAll s.data.toList ≠ .syntax := by
  unfold numB at h
  rw [Bool.and_eq_true, Bool.and_eq_true] at h
  obtain ⟨⟨h1, _⟩, h3⟩ := h
  have h1 := of_decide_eq_true h1
  have hd := dig_all h3
  have hne : (trimB s).data.toList ≠ [] := by
    intro e
    have : (trimB s).data.toList.length = (trimB s).size := by simp
    rw [e] at this
    simp at this
    have : (trimB s).size = 0 := by omega
    omega
  have e1 : (trimB s).data.toList = Lib.trimPrefix s.data.toList [45] := by unfold trimB; simp
  rw [e1] at hd hne
  generalize s.data.toList = l at hd hne ⊢
  unfold Lib.trimPrefix at hd hne
  cases l with
  | nil => simp [Lib.hasPrefix] at hne
  | cons c r =>
    by_cases h45 : c = 45
    · subst h45
      rw [show Lib.hasPrefix (45 :: r) [45] = true by simp [Lib.hasPrefix], if_pos rfl] at hd hne
      rw [Lib.atoiAll_minus]
      exact signed_dig (mag_dig hne hd)
    · have hp : Lib.hasPrefix (c :: r) [45] = false := by
        show (((45 : UInt8) == c) && List.isPrefixOf [] r) = false
        rw [show ((45 : UInt8) == c) = false from beq_eq_false_iff_ne.2 (fun e => h45 e.symm)]
        rfl
      rw [hp, if_neg (by decide)] at hd hne
      have hc := hd c List.mem_cons_self
      unfold isDg at hc
      rw [Lib.atoiAll_plain c r (by omega) (by omega)]
      exact signless_dig (mag_dig (by simp) hd)
theorem valN_bd (s : ByteArray) : -9223372036854775808 ≤ valN s ∧ valN s ≤ 9223372036854775807 := by
  unfold valN
  split
  · rename_i h; exact Lib.atoiAll_bounds h
  · unfold Lib.atoiSat; split <;> omega
theorem below_bytesW (w : World) (ty : TypeId) (t : ByteArray) : Below w.heap.size w (Lib.bytesWorld w ty t) := ⟨rfl, rfl, rfl, by rw [Lib.bytesWorld_size]; omega, fun j hj => Lib.bytesWorld_at_old w ty t j hj⟩
theorem gRg : Tryz.laysAto_ren.g 16 = 7 := by kernel_rfl
theorem number_any (s : ByteArray) (w : World) (hR : RgAt w) (hs : s.size ≤ 1048576) :
    Calls Tryz.prog 82 #[.string s] w fun e w' => e = .returned (.tuple #[.int .i64 (if numB s then valN s else 0), .bool (numB s)]) ∧ Below w.heap.size w w' := by
  have ht : (trimB s).size ≤ 1048576 := by
    have h1 : (trimB s).size = (Lib.trimPrefix s.data.toList [45]).length := by unfold trimB; simp [ByteArray.size]
    have h2 : s.data.toList.length = s.size := by simp
    rw [h1]
    unfold Lib.trimPrefix
    split
    · rw [List.length_drop]; omega
    · omega
  have HN := hide (isNumber_any s w ht)
  cases hb : numB s with
  | false =>
    rw [hb] at HN
    rw [if_neg (by decide)]
    clear hb hR
    go_enter Tryz.func82, Tryz.ntmps82
    go_wp2_with (go_at_call 105; refine (unhide HN).mono ?_; rintro e w' ⟨rfl, rfl⟩)
    go_ret2
    exact ⟨rfl, Below.refl _ _⟩
  | true =>
    rw [hb] at HN
    rw [if_pos rfl]
    have hw := num_word hb
    have HA : Hid (Calls Tryz.prog 106 #[.string s] w fun e w' => (∃ ev, e = .returned (.tuple #[.int .i64 (valN s), ev])) ∧ Below w.heap.size w w') := hide (by
      cases ha : Lib.atoiAll s.data.toList with
      | «syntax» => exact absurd ha hw
      | ok v =>
        have hv : valN s = v := by unfold valN; rw [ha]
        rw [hv]
        refine (Any.strconv_Atoi_ok Tryz.laysAto s (by omega) v ha w).mono ?_
        rintro e w' ⟨rfl, h⟩
        refine ⟨⟨_, rfl⟩, ?_⟩
        rcases h with rfl | ⟨t, rfl⟩
        · exact Below.refl _ _
        · exact below_bytesW _ _ _
      | range =>
        have hv : valN s = Lib.atoiSat s.data.toList := by unfold valN; rw [ha]
        rw [hv]
        obtain ⟨ev, h1, h2⟩ := hR
        have h1' : w.cell? ⟨Tryz.laysAto_ren.g 16, 0, none⟩ = some ev := by rw [gRg]; exact h1
        have hh := Any.strconv_Atoi_range Tryz.laysAto s (by omega) ha ev w h1' h2
        refine Calls.mono hh ?_
        rintro e w' ⟨N, rfl, _, _, h⟩
        exact ⟨⟨_, rfl⟩, h⟩)
    clear hb hR hw
    go_enter Tryz.func82, Tryz.ntmps82
    go_wp2_with (first | (go_at_call 105; refine (unhide HN).mono ?_; rintro e w' ⟨rfl, rfl⟩) | (go_at_call 106; refine (unhide HA).mono ?_; rintro e w2 ⟨⟨ev, rfl⟩, hb2⟩))
    go_ret2
    exact ⟨rfl, hb2⟩
end Go.Proofs.YthdgbdjagjagpaaGreatDoor

/-
  A line's words: isBlank, wordsOf, labelOf. Conditions: lengths fit; bytealg.MaxLen lies in its cell.
-/
namespace Go.Proofs.YthdgbdjagjagpaaGreatDoor
open Go.RowKit Go.Shelf
set_option maxRecDepth 20000
set_option linter.unusedVariables false
set_option linter.unusedSimpArgs false

def blk (x : Nat) : Bool := decide (x = 32) || decide (x = 9)
theorem isBlank_any (x : Nat) (w : World) : Calls Tryz.prog 53 #[.int .i32 (x : Int)] w fun e w' => e = .returned (.bool (blk x)) ∧ w' = w := by
  unfold blk
  by_cases h1 : x = 32
  · subst h1
    go_enter Tryz.func53, Tryz.ntmps53
    go_wp2
    go_ret
    exact ⟨rfl, rfl⟩
  · have t1 : ((x : Int) == 32) = false := beq_f (by omega)
    rw [decide_eq_false h1]
    by_cases h2 : x = 9
    · subst h2
      go_enter Tryz.func53, Tryz.ntmps53
      go_wp2
      go_ret
      exact ⟨rfl, rfl⟩
    · have t2 : ((x : Int) == 9) = false := beq_f (by omega)
      rw [decide_eq_false h2]
      go_enter Tryz.func53, Tryz.ntmps53
      go_wp2
      go_ret
      exact ⟨rfl, rfl⟩
theorem blank_pays (w : World) : PredGrows Tryz.prog 53 #[] blk w := fun W x _ _ => by
  show Calls Tryz.prog 53 #[.int .i32 (x : Int)] W _
  exact (isBlank_any x W).mono fun e w' ⟨h1, h2⟩ => ⟨h1, by rw [h2]; exact Below.refl _ _⟩
def MlAt (w : World) : Prop := ∃ m, w.cell? ⟨2, 0, none⟩ = some (.int .i64 m)
theorem MlAt.below {w w' : World} (h : MlAt w) (hb : Below w.heap.size w w') : MlAt w' := by
  obtain ⟨ev, h1⟩ := h
  exact ⟨ev, (hb.cell (p := ⟨2, 0, none⟩) (World.block_lt_of_cell? w _ h1)).trans h1⟩
theorem gMl : Tryz.laysCut_ren.g 1 = 2 := by kernel_rfl
/-- A line without its remark; its words. -/
def cutL (s : ByteArray) : ByteArray := ⟨(Lib.cut s.data.toList [59]).1.toArray⟩
def wdsL (s : ByteArray) : List ByteArray := Lib.goFieldsP blk (cutL s)
def OwnS (w : World) (base : Nat) (v : Value) (N : List ByteArray) : Prop := w.ownsRow base 9 1 v N.length (N.map Value.string)
theorem Cut_any (s : ByteArray) (w : World) (hM : MlAt w) (hs : s.size ≤ 1048576) : Calls Tryz.prog 51 #[.string s, .string ⟨#[59]⟩] w fun e w' => (∃ x y, e = .returned (.tuple #[.string (cutL s), x, y])) ∧ Below w.heap.size w w' := by
  obtain ⟨m, hm⟩ := hM
  have hm' : w.cell? ⟨Tryz.laysCut_ren.g 1, 0, none⟩ = some (.int .i64 m) := by rw [gMl]; exact hm
  have hh := Any.strings_Cut Tryz.laysCut s ⟨#[59]⟩ m w (by omega) hm'
  refine Calls.mono hh ?_
  rintro e w' ⟨rfl, n, rfl⟩
  exact ⟨⟨_, _, rfl⟩, below_dL _ _⟩
theorem cutL_size (s : ByteArray) : (cutL s).size ≤ s.size := by
  have h2 : s.data.toList.length = s.size := by simp
  have h1 : (cutL s).size = (Lib.cut s.data.toList [59]).1.length := by unfold cutL; simp [ByteArray.size]
  rw [h1, ← h2]
  unfold Lib.cut
  split
  · simp only []; rw [List.length_take]; omega
  · exact Nat.le_refl _
theorem enBl : ∀ args w, (callFunc 53 args).run Tryz.prog w = .ok (.enter 53 args) w := enters_of Tryz.func53 (by kernel_rfl) rfl
theorem Fields_any (s : ByteArray) (w : World) (hs : s.size ≤ 1048576) : Calls Tryz.prog 52 #[.string s, .func (.func 53) #[] #[]] w fun e w' => ∃ v, e = .returned v ∧ OwnS w' w.heap.size v (Lib.goFieldsP blk s) ∧ Below w.heap.size w w' := by
  have hh := Any.strings_FieldsFunc_grows Tryz.laysFF 53 #[] enBl blk s w (by omega) (blank_pays w) (by kernel_rfl) (by kernel_rfl)
  refine Calls.mono hh ?_
  rintro e w' ⟨A, rfl, _, h1, h2⟩
  exact ⟨_, rfl, h1, h2⟩
theorem wordsOf_any (s : ByteArray) (w : World) (hM : MlAt w) (hs : s.size ≤ 1048576) : Calls Tryz.prog 18 #[.string s] w fun e w' => ∃ v, e = .returned v ∧ OwnS w' w.heap.size v (wdsL s) ∧ Below w.heap.size w w' := by
  have HC := hide (Cut_any s w hM hs)
  have HZ := hide (cutL_size s)
  unfold wdsL
  obtain ⟨d, HD⟩ : ∃ d, Hid (cutL s = d) := ⟨_, hide rfl⟩
  rw [unhide HD] at HC HZ ⊢
  clear HD hM
  go_enter Tryz.func18, Tryz.ntmps18
  go_wp2_with fail
  refine (unhide HC).mono ?_
  rintro e w1 ⟨⟨x, y, rfl⟩, hb1⟩
  have HF := hide (Fields_any d w1 (by have := unhide HZ; omega))
  have HB := hide hb1
  clear hb1 HC
  go_wp2_with fail
  refine (unhide HF).mono ?_
  rintro e w2 ⟨v, rfl, ho, hb2⟩
  have HE : Hid (OwnS w2 w.heap.size v (Lib.goFieldsP blk d)) := hide (by
    have := unhide HB
    have h0 := this.size
    refine ⟨ho.1, ?_⟩
    rcases ho.2 with h1 | ⟨g, cap, cur, hv, hbg, r⟩
    · exact Or.inl h1
    · exact Or.inr ⟨g, cap, cur, hv, by omega, r⟩)
  have HB2 := hide ((unhide HB).trans (hb2.mono (unhide HB).size))
  clear ho hb2
  go_wp2
  go_ret
  exact ⟨_, rfl, unhide HE, unhide HB2⟩
/-- A word without the colon at its end. -/
def stripB (s : ByteArray) : ByteArray := ⟨(Lib.trimSuffix s.data.toList [58]).toArray⟩
def colB (s : ByteArray) : Bool := Lib.hasSuffix s.data.toList [58]
theorem CutSuffix_any (s : ByteArray) (w : World) (hs : s.size ≤ 1048576) : Calls Tryz.prog 78 #[.string s, .string ⟨#[58]⟩] w fun e w' => e = .returned (.tuple #[.string (stripB s), .bool (colB s)]) ∧ w' = w :=
  Any.strings_CutSuffix Tryz.laysCS s ⟨#[58]⟩ w (by omega)
theorem stripB_size (s : ByteArray) : (stripB s).size ≤ s.size := by
  have h2 : s.data.toList.length = s.size := by simp
  have h1 : (stripB s).size = (Lib.trimSuffix s.data.toList [58]).length := by unfold stripB; simp [ByteArray.size]
  rw [h1, ← h2]
  unfold Lib.trimSuffix
  split
  · rw [List.length_take]; omega
  · exact Nat.le_refl _
theorem labelOf_any (a : Addr) (n cap : Nat) (s : ByteArray) (w : World) (hc : w.cell? a = some (.string s)) (hn : 0 < n) (hs : s.size ≤ 1048576) :
    Calls Tryz.prog 45 #[.slice (some a) n cap] w fun e w' => e = .returned (.tuple #[.string (stripB s), .bool (colB s && decide (n = 1) && nameB (stripB s))]) ∧ w' = w := by
  have HC := hide (CutSuffix_any s w hs)
  have hz := stripB_size s
  have HN := hide (IsName_any (stripB s) w (by unfold maxLen; omega))
  obtain ⟨b, off, f⟩ := a
  generalize stripB s = d at HC HN ⊢
  generalize colB s = q at HC ⊢
  generalize nameB d = r at HN ⊢
  cases q with
  | false =>
    simp only [Bool.false_and]
    go_enter Tryz.func45, Tryz.ntmps45
    go_wp2_with (first | (go_at_call 78; refine (unhide HC).mono ?_; rintro e w' ⟨rfl, rfl⟩) | (go_at_call 79; refine (unhide HN).mono ?_; rintro e w' ⟨rfl, rfl⟩))
    go_ret2
    exact ⟨rfl, rfl⟩
  | true =>
    by_cases h1 : n = 1
    · subst h1
      simp only [Bool.true_and, decide_true]
      go_enter Tryz.func45, Tryz.ntmps45
      go_wp2_with (first | (go_at_call 78; refine (unhide HC).mono ?_; rintro e w' ⟨rfl, rfl⟩) | (go_at_call 79; refine (unhide HN).mono ?_; rintro e w' ⟨rfl, rfl⟩))
      go_ret2
      exact ⟨rfl, rfl⟩
    · have t1 : ((n : Int) == 1) = false := beq_f (by omega)
      rw [decide_eq_false h1]
      simp only [Bool.true_and, Bool.false_and, Bool.and_false]
      go_enter Tryz.func45, Tryz.ntmps45
      go_wp2_with (first | (go_at_call 78; refine (unhide HC).mono ?_; rintro e w' ⟨rfl, rfl⟩) | (go_at_call 79; refine (unhide HN).mono ?_; rintro e w' ⟨rfl, rfl⟩))
      go_ret2
      exact ⟨rfl, rfl⟩
end Go.Proofs.YthdgbdjagjagpaaGreatDoor
