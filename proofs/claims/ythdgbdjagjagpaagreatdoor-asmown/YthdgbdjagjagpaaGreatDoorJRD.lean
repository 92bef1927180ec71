/-
  Texts of contracts and plain lemmas, one behind another; each says at its head what it holds.
-/
import Derived.Test.YthdgbdjagjagpaaGreatDoorJRC
import Derived.Test.YthdgbdjagjagpaaGreatDoorJRB
import Derived.Test.YthdgbdjagjagpaaGreatDoorJPR
import Derived.Test.YthdgbdjagjagpaaGreatDoorWd2
import Derived.Test.YthdgbdjagjagpaaGreatDoorWn
/-
  The document's reading of a text, plainly: lines, words, numbers. No Go in it.
-/
namespace Go.Proofs.YthdgbdjagjagpaaGreatDoor
open Go.RowKit
set_option maxRecDepth 20000
set_option linter.unusedVariables false
set_option linter.unusedSimpArgs false

def linF : List UInt8 → List UInt8 → List (List UInt8)
  | cur, [] => if cur = [] then [] else [cur]
  | cur, c :: r => if c = 10 then cur :: linF [] r else linF (cur ++ [c]) r
def splC (cur r : List UInt8) : List (List UInt8) := match splL r with | x :: t => (cur ++ x) :: t | [] => [cur]
theorem splC_nil (cur : List UInt8) : splC cur [] = [cur] := by unfold splC splL; simp
theorem splC_hit (cur r : List UInt8) : splC cur (10 :: r) = cur :: splL r := by
  unfold splC
  rw [splL, if_pos rfl]
  simp
theorem splC_more {c : UInt8} (cur r : List UInt8) (h : c ≠ 10) : splC cur (c :: r) = splC (cur ++ [c]) r := by
  unfold splC
  rw [splL, if_neg h]
  cases hs : splL r with
  | nil => exact absurd hs (splL_ne r)
  | cons x t => simp
theorem splC_start (r : List UInt8) : splC [] r = splL r := by
  unfold splC
  cases hs : splL r with
  | nil => exact absurd hs (splL_ne r)
  | cons x t => simp
theorem lin_spl : ∀ (r cur : List UInt8), linF cur r = splC cur r ∨ linF cur r ++ [[]] = splC cur r
  | [], cur => by
    rw [splC_nil, linF]
    by_cases h : cur = []
    · rw [if_pos h, h]; exact Or.inr rfl
    · rw [if_neg h]; exact Or.inl rfl
  | c :: r, cur => by
    rw [linF]
    by_cases h : c = 10
    · subst h
      rw [if_pos rfl, splC_hit, ← splC_start]
      rcases lin_spl r [] with e | e
      · exact Or.inl (by rw [e])
      · exact Or.inr (by rw [← e]; rfl)
    · rw [if_neg h, splC_more _ _ h]
      exact lin_spl r (cur ++ [c])
theorem goS_end : ∀ (X : List (List ByteArray)) (i : Nat) (st : Rs), goS (X ++ [[]]) i st = goS X i st
  | [], i, st => by
    rw [List.nil_append, goS_one (by rfl)]
    rfl
  | ws :: t, i, st => by
    rw [List.cons_append, goS, goS, goS_end t]
theorem parS_lin {s : ByteArray} (h : ¬ 65536 < s.size) : parS s = finG (goS (bwW ((linF [] s.data.toList).map wrdL)) 1 ⟨[], [], 0, []⟩) := by
  unfold parS
  rw [if_neg h]
  have e : ((splL s.data.toList).map wrdL).map (fun l => l.map fun x => (⟨x.toArray⟩ : ByteArray)) = bwW ((splL s.data.toList).map wrdL) := rfl
  rw [e]
  rcases lin_spl s.data.toList [] with h1 | h1
  · rw [h1, splC_start]
  · rw [splC_start] at h1
    rw [← h1, List.map_append, bwW_app]
    have : bwW (List.map wrdL [[]]) = [[]] := rfl
    rw [this, goS_end]

/-! ### Words -/
theorem fld_end {cur : List UInt8} : fldL cur (cutR []) = if cur = [] then [] else [cur] := rfl
theorem fld_semi {cur r : List UInt8} : fldL cur (cutR (59 :: r)) = if cur = [] then [] else [cur] := by
  rw [cutR, if_pos rfl, fldL]
theorem fld_blk {c : UInt8} {cur r : List UInt8} (h : c ≠ 59) (hb : blk c.toNat = true) : fldL cur (cutR (c :: r)) = if cur = [] then fldL [] (cutR r) else cur :: fldL [] (cutR r) := by
  rw [cutR, if_neg h, fldL, hb, if_pos rfl]
theorem fld_char {c : UInt8} {cur r : List UInt8} (h : c ≠ 59) (hb : blk c.toNat = false) : fldL cur (cutR (c :: r)) = fldL (cur ++ [c]) (cutR r) := by
  rw [cutR, if_neg h, fldL, hb, if_neg (by decide)]

/-! ### Numbers -/
/-- What the document's Number tells. -/
def numX (s : ByteArray) : Int × Bool × Bool := if numB s = true then (if farB s then 0 else numR s, true, farB s) else (0, false, false)
/-- What operands come to. -/
def opsE (ws : List ByteArray) : Int := if ws.all numB then (if ws.any farB then 5 else 0) else 231
theorem digV_take {l : List UInt8} {k : Nat} {c : UInt8} (h : l[k]? = some c) : digV 0 (l.take (k + 1)) = digV 0 (l.take k) * 10 + (c.toNat - 48) := by
  rw [take_snoc h, digV_snoc]
theorem hi_bd : ∀ k, k < 34 → loA k ≥ -2147483648 ∧ hiA k ≤ 4294967296 ∧ hiB k ≤ 4294967296 := by decide +kernel
theorem eE_far {op : Nat} {a b : Int} (ho : op < 34) (h : (4294967296 < a ∨ a < -4294967296) ∨ (4294967296 < b ∨ b < 0)) : eE op a b = 5 := by
  have hb := hi_bd op ho
  unfold eE
  rw [if_pos ho]
  have : inD op a b = false := by
    cases hi : inD op a b with
    | false => rfl
    | true =>
      unfold inD at hi
      rw [Bool.and_eq_true, Bool.and_eq_true, Bool.and_eq_true] at hi
      obtain ⟨⟨a1, a2⟩, b1, b2⟩ := hi
      have a1 := of_decide_eq_true a1
      have a2 := of_decide_eq_true a2
      have b1 := of_decide_eq_true b1
      have b2 := of_decide_eq_true b2
      omega
  rw [this]
  rfl
/-- What the document makes of operands is what the reading makes of them. -/
theorem plain_ops {st : Rs} {op : Nat} {ws : List ByteArray} (ho : op < 34) (hl : ws.length ≤ 2) : (opsE ws ≠ 0 → (plainS st op ws) = (opsE ws, st)) ∧ (opsE ws = 0 → plainS st op ws = putS st op (valAt ws 0) (valAt ws 1) ∧ ∀ s ∈ ws, numB s = true ∧ farB s = false) := by
  unfold opsE plainS
  by_cases ha : ws.all numB = true
  · rw [if_pos ha, if_pos ha]
    by_cases hf : ws.any farB = true
    · rw [if_pos hf]
      refine ⟨fun _ => ?_, fun h => absurd h (by decide)⟩
      have hbig : ∀ k s, ws[k]? = some s → farB s = true → 1000000000000000000 ≤ valAt ws k ∨ valAt ws k ≤ -1000000000000000000 := fun k s hk hs => by
        have hn : numB s = true := List.all_eq_true.1 ha s (List.mem_of_getElem? hk)
        have := num_far hn hs
        unfold valAt
        rw [hk]
        exact this
      have he : eE op (valAt ws 0) (valAt ws 1) = 5 := by
        obtain ⟨s, hs, hfs⟩ := List.any_eq_true.1 hf
        obtain ⟨k, hk, rfl⟩ := List.mem_iff_getElem.1 hs
        have := hbig k _ (List.getElem?_eq_getElem hk) hfs
        rcases (by omega : k = 0 ∨ k = 1) with rfl | rfl
        · exact eE_far ho (by omega)
        · exact eE_far ho (by omega)
      unfold putS
      rw [he, if_pos (by decide)]
    · rw [if_neg hf]
      refine ⟨fun h => absurd rfl h, fun _ => ⟨rfl, fun s hs => ⟨List.all_eq_true.1 ha s hs, ?_⟩⟩⟩
      cases h : farB s with
      | false => rfl
      | true => exact absurd (List.any_eq_true.2 ⟨s, hs, h⟩) hf
  · rw [if_neg ha, if_neg ha]
    exact ⟨fun _ => rfl, fun h => absurd h (by decide)⟩

/-! ### Labels and jumps -/
def labBd (st : Rs) : Prop := ∀ x ∈ st.labs, x.2 ≤ st.size
theorem labBd.read {st : Rs} {i : Nat} {ws : List ByteArray} (h : labBd st) : labBd (readS st i ws).2 := by
  have put : ∀ (st : Rs) op a b, labBd st → labBd (putS st op a b).2 := fun st op a b h => by
    unfold putS
    split
    · exact h
    · split
      · exact h
      · exact fun x hx => Nat.le_trans (h x hx) (Nat.le_add_right _ _)
  cases ws with
  | nil => exact h
  | cons w r =>
    rw [readS_cons]
    split
    · unfold nameS
      split
      · exact h
      · intro x hx
        rcases List.mem_append.1 hx with hx | hx
        · exact h x hx
        · rw [List.mem_singleton] at hx; rw [hx]; exact Nat.le_refl _
    · split
      · exact h
      · split
        · unfold jumpS
          split
          · exact put _ _ _ _ h
          · exact h
        · unfold plainS
          split
          · exact put _ _ _ _ h
          · exact h
theorem findLb_mem {s : ByteArray} {n : Nat} : ∀ {L : List (ByteArray × Nat)}, findLb L s = some n → ∃ x ∈ L, x.2 = n
  | [], h => by cases h
  | x :: L, h => by
    rw [findLb] at h
    split at h
    · injection h with h; exact ⟨x, List.mem_cons_self, h⟩
    · obtain ⟨y, hy, e⟩ := findLb_mem h
      exact ⟨y, List.mem_cons_of_mem _ hy, e⟩
/-- A word that ends in a colon is no instruction. -/
theorem op_col {s : ByteArray} (h : colB s = true) : (opD s).2 = false := by
  cases h2 : (opD s).2 with
  | false => rfl
  | true =>
    obtain ⟨h3, h4⟩ := opD_hit h2
    have := colB_wC _ h3
    unfold colB at h this
    rw [h4, h] at this
    cases this
end Go.Proofs.YthdgbdjagjagpaaGreatDoor

/-
  The document's Number, and its look for a label. Conditions: lengths fit.
-/
namespace Go.Proofs.YthdgbdjagjagpaaGreatDoor
open Go.RowKit
set_option maxRecDepth 20000
set_option linter.unusedVariables false
set_option linter.unusedSimpArgs false

theorem trim_ext (s : ByteArray) (h : 0 < s.size) (h0 : byteAt s 0 = 45) : s.extract 1 s.size = trimB s := by
  refine ba_eq ?_
  rw [trim_data, ext_piece]
  have hz := ba_size s
  unfold byteAt at h0
  generalize s.data.toList = l at hz h0 ⊢
  cases l with
  | nil => simp at hz; omega
  | cons c r =>
    have hc : c = 45 := by
      have h1 : ((c.toNat : Nat) : Int) = 45 := by simpa using h0
      have : c.toNat = 45 := by omega
      exact UInt8.toNat_inj.1 this
    subst hc
    rw [trim_neg, ← hz]
    unfold Lib.pieceU
    simp
theorem trim_same (s : ByteArray) (h : ¬ (0 < s.size ∧ byteAt s 0 = 45)) : trimB s = s := by
  refine ba_eq ?_
  rw [trim_data]
  rcases trim_cases s.data.toList with ⟨r, e, _⟩ | ⟨_, e⟩
  · exact absurd ⟨by have := ba_size s; rw [e] at this; simp at this; omega, by unfold byteAt; rw [e]; rfl⟩ h
  · exact e
theorem byteAt_lt (s : ByteArray) (k : Nat) : 0 ≤ byteAt s k ∧ byteAt s k ≤ 255 := by
  unfold byteAt
  have := ((s.data.toList[k]?).getD 0).toNat_lt
  omega
set_option maxHeartbeats 4000000 in
theorem refNumber_any (s : ByteArray) (w : World) (hs : s.size ≤ 1048576) :
    Calls Tryz.prog 86 #[.string s] w fun e w' => e = .returned (.tuple #[.int .i64 (numX s).1, .bool (numX s).2.1, .bool (numX s).2.2]) ∧ w' = w := by
  obtain ⟨r, HR⟩ : ∃ r, Hid (numX s = r) := ⟨_, hide rfl⟩
  rw [unhide HR]
  have hdz : (trimB s).size ≤ s.size := by
    have := trim_data s
    rcases trim_cases s.data.toList with ⟨q, e1, e2⟩ | ⟨_, e2⟩
    · have h1 := ba_size (trimB s); have h2 := ba_size s
      rw [this, e2] at h1; rw [e1] at h2; simp at h2; omega
    · have h1 := ba_size (trimB s); have h2 := ba_size s
      rw [this, e2] at h1; omega
  have HDC : (0 < s.size ∧ byteAt s 0 = 45 ∧ s.extract 1 s.size = trimB s) ∨ (¬ (0 < s.size ∧ byteAt s 0 = 45) ∧ trimB s = s) := by
    by_cases h : 0 < s.size ∧ byteAt s 0 = 45
    · exact Or.inl ⟨h.1, h.2, trim_ext s h.1 h.2⟩
    · exact Or.inr ⟨h, trim_same s h⟩
  have hz0 : (s.toList == [48]) = zeroB s := rfl
  unfold numX numB farB numR negB at HR
  generalize trimB s = d at HR hdz HDC
  go_enter Tryz.func86, Tryz.ntmps86
  go_upto_region 2 with fail
  obtain ⟨q, HQ⟩ : ∃ q, Hid (decide (0 < s.size ∧ byteAt s 0 = 45) = q) := ⟨_, hide rfl⟩
  go_cut [15] (fun v wx => v = .bool q ∧ Hid (wx = w))
  case first =>
    clear HR HDC hdz
    by_cases h0 : 0 < s.size
    · have j1 : ((s.size : Nat) : Int) > 0 := by omega
      have ek := byteAt_eq s 0 h0
      by_cases h45 : byteAt s 0 = 45
      · obtain rfl : q = true := (unhide HQ).symm.trans (decide_eq_true ⟨h0, h45⟩)
        have t0 : (((s[0]'h0).toNat : Int) == 45) = true := by rw [ek] at h45; exact beq_t h45
        clear h45 ek HQ
        go_wp2
        go_meet
        exact ⟨rfl, hide rfl⟩
      · obtain rfl : q = false := (unhide HQ).symm.trans (decide_eq_false (fun h => h45 h.2))
        have t0 : (((s[0]'h0).toNat : Int) == 45) = false := by rw [ek] at h45; exact beq_f h45
        clear h45 ek HQ
        go_wp2
        go_meet
        exact ⟨rfl, hide rfl⟩
    · have j1 : ¬ ((s.size : Nat) : Int) > 0 := by omega
      obtain rfl : q = false := (unhide HQ).symm.trans (decide_eq_false (fun h => h0 h.1))
      clear h0 HQ
      go_wp2
      go_meet
      exact ⟨rfl, hide rfl⟩
  case rest =>
  obtain ⟨rfl, HWX⟩ := hcut
  rw [unhide HWX]
  clear HWX
  have HDV : Hid ((q = true ∧ s.extract 1 s.size = d ∧ 1 ≤ s.size) ∨ (q = false ∧ d = s)) := hide (by
    rcases HDC with ⟨h1, h2, h3⟩ | ⟨h1, h2⟩
    · exact Or.inl ⟨(unhide HQ).symm.trans (decide_eq_true ⟨h1, h2⟩), h3, h1⟩
    · exact Or.inr ⟨(unhide HQ).symm.trans (decide_eq_false h1), h2⟩)
  clear HDC HQ
  go_upto_if 15 with fail
  go_cut [5] (fun v wx => v = .string d ∧ Hid (wx = w))
  case first =>
    rcases unhide HDV with ⟨rfl, h2, h3⟩ | ⟨rfl, h2⟩
    · have i1 : ¬ ((s.size : Nat) : Int) < 1 := by omega
      clear HR hdz HDV
      go_wp2
      go_meet
      exact ⟨rfl, hide rfl⟩
    · subst h2
      clear HR hdz HDV
      go_wp2
      go_meet
      exact ⟨rfl, hide rfl⟩
  case rest =>
  obtain ⟨rfl, HWX⟩ := hcut
  rw [unhide HWX]
  clear HWX HDV
  obtain ⟨far, HFA⟩ : ∃ far, Hid (decide (18 < d.size) = far) := ⟨_, hide rfl⟩
  rw [unhide HFA] at HR
  by_cases h0 : d.size = 0
  · have e0 : d = ⟨#[]⟩ := ByteArray.ext (Array.eq_empty_of_size_eq_zero h0)
    have HF : Hid (r = (0, false, false)) := hide (by rw [← unhide HR, h0]; rfl)
    subst e0
    clear HR h0 hdz hs HFA
    go_wp2
    go_ret3
    rw [unhide HF]
    exact ⟨rfl, rfl⟩
  have h1 : 0 < d.size := by omega
  have hne : ¬ d.toList = [] := by
    rw [ByteArray.toList_eq]
    intro h
    have h2 : d.data.toList.length = 0 := by rw [h]; rfl
    have h3 : d.data.toList.length = d.size := by simp
    omega
  have t0 : d.toList.isEmpty = false := by
    cases h : d.toList.isEmpty with
    | false => rfl
    | true => exact absurd (List.isEmpty_iff.1 h) hne
  have e0 := byteAt_eq d 0 h1
  have i0 : (0 : Int) < (d.size : Int) := by omega
  by_cases hz : byteAt d 0 = 48 ∧ zeroB s = false
  · have HF : Hid (r = (0, false, false)) := hide (by rw [← unhide HR, hz.1, hz.2]; simp)
    have t1 : (((d[0]'h1).toNat : Int) == 48) = true := by have h := hz.1; rw [e0] at h; exact beq_t h
    have t2 : (s.toList == [48]) = false := hz.2
    clear HR h0 hz e0 hz0 hdz hs HFA
    go_wp2
    go_ret3
    rw [unhide HF]
    exact ⟨rfl, rfl⟩
  have HZ : Hid (r = if allDig d d.size = true then (if far then 0 else (if decide (d.size < s.size) then -((digV 0 d.data.toList : Nat) : Int) else ((digV 0 d.data.toList : Nat) : Int)), true, far) else (0, false, false)) := hide (by
    rw [← unhide HR, decide_eq_true h1]
    by_cases h8 : byteAt d 0 = 48
    · have : zeroB s = true := by
        cases h : zeroB s with
        | true => rfl
        | false => exact absurd ⟨h8, h⟩ hz
      rw [this]; simp
    · rw [decide_eq_false h8]; simp)
  have HQ : (((d[0]'h1).toNat : Int) == 48) = false ∨ (((d[0]'h1).toNat : Int) == 48) = true ∧ (s.toList == [48]) = true := by
    by_cases h8 : byteAt d 0 = 48
    · refine Or.inr ⟨by rw [e0] at h8; exact beq_t h8, ?_⟩
      cases h : zeroB s with
      | true => exact hz0.trans h
      | false => exact absurd ⟨h8, h⟩ hz
    · exact Or.inl (by rw [e0] at h8; exact beq_f h8)
  clear HR h0 hz e0 hz0
  go_upto_region 4 with fail
  go_cut [28] (fun v wx => v = .bool false ∧ Hid (wx = w))
  case first =>
    clear HZ HFA hdz
    rcases HQ with t1 | ⟨t1, t2⟩
    · go_wp2
      go_meet
      exact ⟨rfl, hide rfl⟩
    · go_wp2
      go_meet
      exact ⟨rfl, hide rfl⟩
  case rest =>
  obtain ⟨rfl, HWX⟩ := hcut
  rw [unhide HWX]
  clear HWX HQ
  go_upto_region 6 with fail
  go_cut [4] (fun v wx => v = .bool far ∧ Hid (wx = w))
  case first =>
    clear HZ hdz
    by_cases h18 : 18 < d.size
    · obtain rfl : far = true := (unhide HFA).symm.trans (decide_eq_true h18)
      have j : ((d.size : Nat) : Int) > 18 := by omega
      clear HFA h18
      go_wp2
      go_meet
      exact ⟨rfl, hide rfl⟩
    · obtain rfl : far = false := (unhide HFA).symm.trans (decide_eq_false h18)
      have j : ¬ ((d.size : Nat) : Int) > 18 := by omega
      clear HFA h18
      go_wp2
      go_meet
      exact ⟨rfl, hide rfl⟩
  case rest =>
  obtain ⟨rfl, HWX⟩ := hcut
  rw [unhide HWX]
  clear HWX
  have hdl := ba_size d
  have HDL := hide hdl
  clear hdl hne t0 i0
  go_wp2
  go_loop [2, 4, 6] (fun n f i => f = .bool far ∧ ∃ (k : Nat) (m : Int), k ≤ d.size ∧ i = .int .i64 (k : Int) ∧ n = .int .i64 m ∧ 0 ≤ m ∧ m ≤ 1000000000000000000 ∧ Hid (allDig d k = true) ∧ Hid (m = if far then 0 else ((digV 0 (d.data.toList.take k) : Nat) : Int))) (fun _ _ i => d.size - (intOf i).toNat)
  case atStart => exact ⟨rfl, 0, 0, by omega, rfl, rfl, by omega, by omega, hide rfl, hide (by cases far <;> rfl)⟩
  case round =>
    obtain ⟨rfl, k, m, hk, rfl, rfl, hm0, hm1, HK, HM⟩ := hrel
    by_cases hlt : k < d.size
    · have j1 : ((k : Nat) : Int) < ((d.size : Nat) : Int) := by omega
      have ek := byteAt_eq d k hlt
      have hkl : k < d.data.toList.length := by rw [unhide HDL]; exact hlt
      have hb : byteAt d k = ((d.data.toList[k]).toNat : Int) := by unfold byteAt; rw [List.getElem?_eq_getElem hkl]; rfl
      cases hd : digB (byteAt d k) with
      | true =>
        have HK2 : Hid (allDig d (k + 1) = true) := hide (by rw [allDig_succ, unhide HK, hd]; rfl)
        have hd2 := of_decide_eq_true hd
        have HTK : Hid (digV 0 (d.data.toList.take (k + 1)) = digV 0 (d.data.toList.take k) * 10 + ((d.data.toList[k]).toNat - 48)) := hide (digV_take (List.getElem?_eq_getElem hkl))
        have hd3 := hd2
        rw [hb] at hd3
        rw [ek] at hd2
        have he : ((d.data.toList[k]).toNat : Int) = ((d[k]'hlt).toNat : Int) := by rw [← hb, ek]
        obtain ⟨a1, a2⟩ := hd2
        have b1 : ¬ ((d[k].toNat : Nat) : Int) < 48 := by omega
        have b2 : ¬ ((d[k].toNat : Nat) : Int) > 57 := by omega
        cases far with
        | true =>
          clear hd ek HK a1 a2 hb HTK hd3 he
          go_wp2
          go_round
          case rel => exact ⟨rfl, k + 1, m, by omega, by go_num, rfl, hm0, hm1, HK2, HM⟩
          case measure => simp [intOf]; omega
        | false =>
          have h18 : ¬ 18 < d.size := of_decide_eq_false (unhide HFA)
          have hlow : m ≤ 100000000000000000 - 1 := by
            have h2 := unhide HM
            have hall : ∀ x ∈ d.data.toList.take k, isDg x := fun x hx => by
              obtain ⟨j, hj, rfl⟩ := List.mem_iff_getElem.1 hx
              rw [List.length_take] at hj
              have h3 := (List.all_eq_true.1 (unhide HK)) j (List.mem_range.2 (by omega))
              have h4 := of_decide_eq_true h3
              unfold byteAt at h4
              have hjl : j < d.data.toList.length := by omega
              rw [List.getElem?_eq_getElem hjl] at h4
              simp only [Option.getD_some] at h4
              rw [List.getElem_take]
              unfold isDg
              omega
            have h3 := digV_lt _ 0 hall
            have h4 : (d.data.toList.take k).length ≤ 17 := by rw [List.length_take]; omega
            have h5 : (0 + 1) * 10 ^ (d.data.toList.take k).length ≤ 100000000000000000 := by
              rw [Nat.zero_add, Nat.one_mul]
              exact Nat.le_trans (Nat.pow_le_pow_right (by omega) h4) (by decide)
            have h6 : m = ((digV 0 (d.data.toList.take k) : Nat) : Int) := h2
            omega
          have HM2 : Hid (m * 10 + (((d[k].toNat : Nat) : Int) - 48) = ((digV 0 (d.data.toList.take (k + 1)) : Nat) : Int)) := hide (by
            have h6 : m = ((digV 0 (d.data.toList.take k) : Nat) : Int) := unhide HM
            rw [unhide HTK, ← he, h6]
            omega)
          clear hd ek HK hb HTK hd3 he HM h18
          go_wp2
          go_round
          case rel => exact ⟨rfl, k + 1, m * 10 + (((d[k].toNat : Nat) : Int) - 48), by omega, by go_num, rfl, by omega, by omega, HK2, HM2⟩
          case measure => simp [intOf]; omega
      | false =>
        have HF : Hid (r = (0, false, false)) := hide (by rw [unhide HZ, allDig_no hlt hd]; rfl)
        have hd2 := of_decide_eq_false hd
        rw [ek] at hd2
        have hb' : (((d[k].toNat : Nat) : Int) < 48) ∨ ¬ (((d[k].toNat : Nat) : Int) < 48) ∧ ((d[k].toNat : Nat) : Int) > 57 := by omega
        clear hd ek HK hb HZ HM hd2
        rcases hb' with b1 | ⟨b1, b2⟩
        · go_wp2
          go_ret3
          rw [unhide HF]
          exact ⟨rfl, rfl⟩
        · go_wp2
          go_ret3
          rw [unhide HF]
          exact ⟨rfl, rfl⟩
    · obtain rfl : k = d.size := by omega
      have hM := unhide HM
      rw [← unhide HDL, List.take_length] at hM
      have HR2 : Hid (r = (if d.size < s.size then -m else m, true, far)) := hide (by
        rw [unhide HZ, unhide HK, if_pos rfl, hM]
        cases far with
        | true => by_cases hx : d.size < s.size <;> simp [hx]
        | false => by_cases hx : d.size < s.size <;> simp [hx])
      clear HZ HK HM hM
      by_cases hx : d.size < s.size
      · have j1 : ((d.size : Nat) : Int) < ((s.size : Nat) : Int) := by omega
        rw [if_pos hx] at HR2
        clear hx
        go_wp2
        go_ret3
        rw [unhide HR2]
        exact ⟨rfl, rfl⟩
      · have j1 : ¬ ((d.size : Nat) : Int) < ((s.size : Nat) : Int) := by omega
        rw [if_neg hx] at HR2
        clear hx
        go_wp2
        go_ret3
        rw [unhide HR2]
        exact ⟨rfl, rfl⟩
end Go.Proofs.YthdgbdjagjagpaaGreatDoor

/-
  The document's lines of a text, and words of a line. Conditions: lengths fit.
-/
namespace Go.Proofs.YthdgbdjagjagpaaGreatDoor
open Go.RowKit
set_option maxRecDepth 20000
set_option linter.unusedVariables false
set_option linter.unusedSimpArgs false

theorem cell_newS (w : World) (x : ByteArray) : ∀ (j : Nat) u, [Value.string x][j]? = some u → (w.alloc (.cells #[.string x] 9)).cell? ((⟨w.heap.size, 0, none⟩ : Addr).add j) = some u := by
  intro j u hu
  match j, hu with
  | 0, hu => injection hu with hu; subst hu; exact (cell_of_row _ _ _ _ _ _ (heap_alloc_new w _)).trans rfl
theorem OwnS.belowS {w w' : World} {base : Nat} {v : Value} {N : List ByteArray} (h : OwnS w base v N) (hb : Below w.heap.size w w') : OwnS w' base v N := by
  refine ⟨h.1, ?_⟩
  rcases h.2 with h1 | ⟨g, cap, cur, hv, hbg, hh, r⟩
  · exact Or.inl h1
  · exact Or.inr ⟨g, cap, cur, hv, hbg, by rw [hb.block g (Array.getElem?_eq_some_iff.1 hh).1]; exact hh, r⟩
theorem OwnS.nilS (w : World) (base : Nat) : OwnS w base (.slice none 0 0) [] := World.ownsRow_nil _ _ _ _
theorem OwnS.slice {w : World} {base : Nat} {v : Value} {l : List ByteArray} (h : OwnS w base v l) : ∃ ao cap, v = .slice ao l.length cap := by
  rcases h.2 with ⟨h1, h2⟩ | ⟨g, cap, cur, hv, _⟩
  · exact ⟨none, 0, by rw [h1, h2]⟩
  · exact ⟨_, cap, hv⟩
/-- A text's lines, as the document parts them. -/
def linG (s : ByteArray) : List ByteArray := (linF [] s.data.toList).map bw
theorem ext_bw (s : ByteArray) (f k : Nat) : s.extract f k = bw ((s.data.toList.take k).drop f) := by
  refine ba_eq ?_
  rw [ext_piece, bw_data]
  unfold Lib.pieceU
  rw [List.drop_take]
theorem linF_len : ∀ (r cur : List UInt8), (linF cur r).length ≤ r.length + 1
  | [], cur => by rw [linF]; split <;> simp
  | c :: r, cur => by
    rw [linF]
    split
    · have := linF_len r []; simp; omega
    · have := linF_len r (cur ++ [c]); simp; omega
set_option maxHeartbeats 4000000 in
theorem refLines_any (s : ByteArray) (w : World) (hs : s.size ≤ 1048576) :
    Calls Tryz.prog 21 #[.string s] w fun e w' => ∃ v, e = .returned v ∧ OwnS w' w.heap.size v (linG s) ∧ Below w.heap.size w w' := by
  obtain ⟨i0, hi0, hz0, hz1, hz2⟩ := info_parts infoStX
  have hsl := ba_size s
  have HSL := hide hsl
  clear hsl
  go_enter Tryz.func21, Tryz.ntmps21
  go_wp2
  go_loopw [3, 4, 5] (fun v f i wr => ∃ (p k : Nat) (A : List ByteArray), p ≤ k ∧ k ≤ s.size ∧ f = .int .i64 (p : Int) ∧ i = .int .i64 (k : Int) ∧ A.length ≤ k ∧ Hid (linG s = A ++ (linF ((s.data.toList.take k).drop p) (s.data.toList.drop k)).map bw) ∧ Hid (OwnS wr w.heap.size v A) ∧ Hid (Below w.heap.size w wr)) (fun _ _ i _ => s.size - (intOf i).toNat)
  case atStart => exact ⟨0, 0, [], by omega, by omega, rfl, rfl, by simp, hide rfl, hide (OwnS.nilS _ _), hide (Below.refl _ _)⟩
  case round =>
    obtain ⟨p, k, A, hpk, hk, rfl, rfl, hAk, HL, HO, HB⟩ := hrel
    obtain ⟨va, vc, rfl⟩ := OwnS.slice (unhide HO)
    by_cases hlt : k < s.size
    · have j1 : ((k : Nat) : Int) < ((s.size : Nat) : Int) := by omega
      have hkl : k < s.data.toList.length := by rw [unhide HSL]; exact hlt
      have ek := byteAt_eq s k hlt
      have hd : s.data.toList.drop k = s.data.toList[k] :: s.data.toList.drop (k + 1) := List.drop_eq_getElem_cons hkl
      have hb : byteAt s k = ((s.data.toList[k]).toNat : Int) := by unfold byteAt; rw [List.getElem?_eq_getElem hkl]; rfl
      by_cases h10 : byteAt s k = 10
      · have c10 : s.data.toList[k] = 10 := UInt8.toNat_inj.1 (by rw [hb] at h10; have : (s.data.toList[k]).toNat = 10 := by omega
                                                                  rw [this]; rfl)
        have HL2 : Hid (linG s = (A ++ [s.extract p k]) ++ (linF ((s.data.toList.take (k + 1)).drop (k + 1)) (s.data.toList.drop (k + 1))).map bw) := hide (by
          have e0 : (s.data.toList.take (k + 1)).drop (k + 1) = [] := List.drop_eq_nil_of_le (by rw [List.length_take]; omega)
          rw [unhide HL, hd, c10, linF, if_pos rfl, List.map_cons, List.append_assoc, ext_bw, e0]
          rfl)
        have t0 : (((s[k]'hlt).toNat : Int) == 10) = true := by rw [ek] at h10; exact beq_t h10
        have al : Below wr.heap.size wr (wr.alloc (.cells #[.string (s.extract p k)] 9)) := (Below.refl _ _).alloc (Nat.le_refl _) _
        have HO5 := hide ((unhide HO).belowS al)
        have HB5 := hide ((unhide HB).trans (al.mono (unhide HB).size))
        have HON := hide (cell_newS wr (s.extract p k))
        have hsz := (unhide HB).size
        obtain ⟨x, HX⟩ : ∃ x, s.extract p k = x := ⟨_, rfl⟩
        rw [HX] at HL2 HO5 HB5 HON
        clear ek hd hb h10 c10 HL HO HB al
        go_wp2_with (at_builtin; refine wpList_append_own _ rfl _ _ 41 rfl w.heap.size 9 i0 _ 1 16 Tryz.underlying41 hi0 hz0 hz1 hz2 rfl (by decide) (.slice va A.length vc) A.length (A.map Value.string) (by rfl) (unhide HO5) ⟨wr.heap.size, 0, none⟩ 1 1 [.string x] rfl rfl (unhide HON) (by simp [Value.oneCell']) ?b3 ?b4 ?b5 ?_)
        case b3 => unfold maxLen; omega
        case b4 => omega
        case b5 => simp; omega
        intro v' w' hO hG _
        have HO6 : Hid (OwnS w' w.heap.size v' (A ++ [x])) := hide (by
          unfold OwnS
          rw [List.length_append, List.map_append]
          exact hO)
        have HB6 := hide ((unhide HB5).grown hG (by simp; omega) (fun q e => (World.ownsRow.lt (unhide HO5) q e).1))
        clear hO hG HO5 HB5 HON HX hsz
        go_wp2
        go_roundw
        case rel => exact ⟨k + 1, k + 1, A ++ [x], by omega, by omega, by go_num, by go_num, by simp; omega, HL2, HO6, HB6⟩
        case measure => simp [intOf]; omega
      · have t0 : (((s[k]'hlt).toNat : Int) == 10) = false := by rw [ek] at h10; exact beq_f h10
        have HL2 : Hid (linG s = A ++ (linF ((s.data.toList.take (k + 1)).drop p) (s.data.toList.drop (k + 1))).map bw) := hide (by
          have hne : ¬ s.data.toList[k] = 10 := fun e => h10 (by rw [hb, e]; rfl)
          have e0 : (s.data.toList.take (k + 1)).drop p = (s.data.toList.take k).drop p ++ [s.data.toList[k]] := by
            rw [take_snoc (List.getElem?_eq_getElem hkl), List.drop_append_of_le_length (by rw [List.length_take]; omega)]
          rw [unhide HL, hd, linF, if_neg hne, e0])
        clear ek hd hb h10 HL
        go_wp2
        go_roundw
        case rel => exact ⟨p, k + 1, A, by omega, by omega, rfl, by go_num, by omega, HL2, HO, HB⟩
        case measure => simp [intOf]; omega
    · obtain rfl : k = s.size := by omega
      have e1 : s.data.toList.drop s.size = [] := List.drop_eq_nil_of_le (by rw [unhide HSL]; omega)
      have e2 : s.data.toList.take s.size = s.data.toList := List.take_of_length_le (by rw [unhide HSL]; omega)
      by_cases hp : p < s.size
      · have j1 : ((p : Nat) : Int) < ((s.size : Nat) : Int) := by omega
        have HL2 : Hid (linG s = A ++ [s.extract p s.size]) := hide (by
          rw [unhide HL, e1, e2, linF, if_neg, ext_bw, e2]
          · rfl
          · intro e
            have := congrArg List.length e
            rw [List.length_drop, unhide HSL] at this
            simp at this
            omega)
        have al : Below wr.heap.size wr (wr.alloc (.cells #[.string (s.extract p s.size)] 9)) := (Below.refl _ _).alloc (Nat.le_refl _) _
        have HO5 := hide ((unhide HO).belowS al)
        have HB5 := hide ((unhide HB).trans (al.mono (unhide HB).size))
        have HON := hide (cell_newS wr (s.extract p s.size))
        have hsz := (unhide HB).size
        obtain ⟨x, HX⟩ : ∃ x, s.extract p s.size = x := ⟨_, rfl⟩
        rw [HX] at HL2 HO5 HB5 HON
        clear HL HO HB al e1 e2 hp
        go_wp2_with (at_builtin; refine wpList_append_own _ rfl _ _ 41 rfl w.heap.size 9 i0 _ 1 16 Tryz.underlying41 hi0 hz0 hz1 hz2 rfl (by decide) (.slice va A.length vc) A.length (A.map Value.string) (by rfl) (unhide HO5) ⟨wr.heap.size, 0, none⟩ 1 1 [.string x] rfl rfl (unhide HON) (by simp [Value.oneCell']) ?c3 ?c4 ?c5 ?_)
        case c3 => unfold maxLen; omega
        case c4 => omega
        case c5 => simp; omega
        intro v' w' hO hG _
        have HO6 : Hid (OwnS w' w.heap.size v' (linG s)) := hide (by
          rw [unhide HL2]
          unfold OwnS
          rw [List.length_append, List.map_append]
          exact hO)
        have HB6 := hide ((unhide HB5).grown hG (by simp; omega) (fun q e => (World.ownsRow.lt (unhide HO5) q e).1))
        clear hO hG HO5 HB5 HON HX hsz
        go_wp2
        go_ret
        exact ⟨_, rfl, unhide HO6, unhide HB6⟩
      · have j1 : ¬ ((p : Nat) : Int) < ((s.size : Nat) : Int) := by omega
        have HL2 : linG s = A := by
          rw [unhide HL, e1, e2, linF, if_pos, List.map_nil, List.append_nil]
          exact List.drop_eq_nil_of_le (by rw [unhide HSL]; omega)
        have HOf := HO
        rw [← HL2] at HOf
        have HOF : Hid (OwnS wr w.heap.size (.slice va A.length vc) (linG s)) := hide (by rw [HL2]; exact unhide HO)
        clear HL HL2 HO hp e1 e2 HOf
        go_wp2
        go_ret
        exact ⟨_, rfl, unhide HOF, unhide HB⟩
end Go.Proofs.YthdgbdjagjagpaaGreatDoor

/-
  The document's words of a line. Conditions: lengths fit.
-/
namespace Go.Proofs.YthdgbdjagjagpaaGreatDoor
open Go.RowKit
set_option maxRecDepth 20000
set_option linter.unusedVariables false
set_option linter.unusedSimpArgs false

theorem app_data (a b : ByteArray) : (a ++ b).data.toList = a.data.toList ++ b.data.toList := by simp
/-- What is left to be told of a line's words. -/
def WRel (s : ByteArray) (A : List ByteArray) (cur : List UInt8) (k : Nat) : Prop :=
  (k ≤ s.size → wdsL s = A ++ (fldL cur (cutR (s.data.toList.drop k))).map bw) ∧ (s.size < k → wdsL s = A)
theorem wrel_start (s : ByteArray) : WRel s [] [] 0 := ⟨fun _ => by rw [wds_eq]; rfl, fun h => by omega⟩
def flush (A : List ByteArray) (cur : List UInt8) : List ByteArray := A ++ (if cur = [] then [] else [bw cur])
theorem wrel_end {s : ByteArray} {A : List ByteArray} {cur : List UInt8} (h : WRel s A cur s.size) : wdsL s = flush A cur := by
  rw [h.1 (Nat.le_refl _), List.drop_eq_nil_of_le (by rw [ba_size]; omega), fld_end]
  unfold flush
  split <;> rfl
theorem wrel_semi {s : ByteArray} {A : List ByteArray} {cur : List UInt8} {k : Nat} (h : WRel s A cur k) (hk : k < s.size) (hb : byteAt s k = 59) : wdsL s = flush A cur := by
  have hkl : k < s.data.toList.length := by rw [ba_size]; exact hk
  have hc : s.data.toList[k] = 59 := UInt8.toNat_inj.1 (by
    unfold byteAt at hb
    rw [List.getElem?_eq_getElem hkl] at hb
    simp only [Option.getD_some] at hb
    have : (s.data.toList[k]).toNat = 59 := by omega
    rw [this]; rfl)
  rw [h.1 (by omega), List.drop_eq_getElem_cons hkl, hc, fld_semi]
  unfold flush
  split <;> rfl
theorem wrel_blank {s : ByteArray} {A : List ByteArray} {cur : List UInt8} {k : Nat} (h : WRel s A cur k) (hk : k < s.size) (hb : byteAt s k = 32 ∨ byteAt s k = 9) : WRel s (flush A cur) [] (k + 1) := by
  have hkl : k < s.data.toList.length := by rw [ba_size]; exact hk
  have hc : ((s.data.toList[k]).toNat : Int) = byteAt s k := by unfold byteAt; rw [List.getElem?_eq_getElem hkl]; rfl
  have h1 := h.1 (by omega)
  rw [List.drop_eq_getElem_cons hkl, fld_blk (fun e => by rw [e] at hc; rcases hb with hb | hb <;> rw [hb] at hc <;> exact absurd hc (by decide)) (by
    unfold blk
    rcases hb with hb | hb
    · rw [decide_eq_true (by omega)]; rfl
    · rw [decide_eq_true (p := (s.data.toList[k]).toNat = 9) (by omega)]; simp)] at h1
  refine ⟨fun _ => ?_, fun h2 => by omega⟩
  rw [h1]
  unfold flush
  split
  · simp
  · simp
theorem wrel_char {s : ByteArray} {A : List ByteArray} {cur : List UInt8} {k : Nat} (h : WRel s A cur k) (hk : k < s.size) (h1 : byteAt s k ≠ 59) (h2 : byteAt s k ≠ 32) (h3 : byteAt s k ≠ 9) : WRel s A (cur ++ (s.extract k (k + 1)).data.toList) (k + 1) := by
  have hkl : k < s.data.toList.length := by rw [ba_size]; exact hk
  have hc : ((s.data.toList[k]).toNat : Int) = byteAt s k := by unfold byteAt; rw [List.getElem?_eq_getElem hkl]; rfl
  have e1 : (s.extract k (k + 1)).data.toList = [s.data.toList[k]] := by
    rw [ext_piece]
    unfold Lib.pieceU
    rw [List.drop_eq_getElem_cons hkl, Nat.add_sub_cancel_left]
    rfl
  have h4 := h.1 (by omega)
  rw [List.drop_eq_getElem_cons hkl, fld_char (fun e => by rw [e] at hc; exact h1 hc.symm) (by
    unfold blk
    rw [decide_eq_false (by omega), decide_eq_false (by omega)]
    rfl)] at h4
  rw [e1]
  exact ⟨fun _ => h4, fun h5 => by omega⟩
theorem bw_cur {c : ByteArray} {cur : List UInt8} (h : c.data.toList = cur) : bw cur = c := by rw [← h]; exact bw_of c
set_option maxHeartbeats 16000000 in
theorem refWords_any (s : ByteArray) (w : World) (hs : s.size ≤ 1048576) :
    Calls Tryz.prog 22 #[.string s] w fun e w' => ∃ v, e = .returned v ∧ OwnS w' w.heap.size v (wdsL s) ∧ Below w.heap.size w w' := by
  obtain ⟨i0, hi0, hz0, hz1, hz2⟩ := info_parts infoStX
  go_enter Tryz.func22, Tryz.ntmps22
  go_wp2
  go_loopw [3, 4, 5] (fun v c i wr => ∃ (k : Nat) (A : List ByteArray) (cw : ByteArray), k ≤ s.size + 1 ∧ c = .string cw ∧ i = .int .i64 (k : Int) ∧ A.length ≤ k ∧ cw.size ≤ k * 1048577 ∧ Hid (WRel s A cw.data.toList k) ∧ Hid (OwnS wr w.heap.size v A) ∧ Hid (Below w.heap.size w wr)) (fun _ _ i _ => s.size + 1 - (intOf i).toNat)
  case atStart => exact ⟨0, [], ⟨#[]⟩, by omega, rfl, rfl, by simp, by decide, hide (wrel_start s), hide (OwnS.nilS _ _), hide (Below.refl _ _)⟩
  case round =>
    obtain ⟨k, A, cw, hk, rfl, rfl, hAk, hcz, HR, HO, HB⟩ := hrel
    obtain ⟨va, vc, rfl⟩ := OwnS.slice (unhide HO)
    by_cases hin : k ≤ s.size
    · have j1 : ((k : Nat) : Int) ≤ ((s.size : Nat) : Int) := by omega
      have hcz2 : cw.size ≤ 1099512676352 * 2 := by
        have : k * 1048577 ≤ 1048576 * 1048577 := Nat.mul_le_mul_right _ (by omega)
        omega
      by_cases hch : k < s.size ∧ byteAt s k ≠ 59 ∧ byteAt s k ≠ 32 ∧ byteAt s k ≠ 9
      · obtain ⟨hlt, h1, h2, h3⟩ := hch
        have HR2 := hide (wrel_char (unhide HR) hlt h1 h2 h3)
        have ek := byteAt_eq s k hlt
        rw [ek] at h1 h2 h3
        have j0 : (((k : Nat) : Int) == ((s.size : Nat) : Int)) = false := beq_f (by omega)
        have t1 : (((s[k]'hlt).toNat : Int) == 59) = false := beq_f h1
        have t2 : (((s[k]'hlt).toNat : Int) == 32) = false := beq_f h2
        have t3 : (((s[k]'hlt).toNat : Int) == 9) = false := beq_f h3
        have j2 : ((k : Nat) : Int) < ((s.size : Nat) : Int) := by omega
        have hez := ext_size s k (k + 1)
        obtain ⟨y, HY⟩ : ∃ y, s.extract k (k + 1) = y := ⟨_, rfl⟩
        rw [HY] at hez HR2
        have i1 : ¬ 9223372036854775807 < cw.size + y.size := by omega
        have HZ : Hid ((cw ++ y).size ≤ (k + 1) * 1048577) := hide (by rw [← ba_size, app_data, List.length_append, ba_size, ba_size, Nat.add_mul]; omega)
        have HR3 : Hid (WRel s A (cw ++ y).data.toList (k + 1)) := hide (by rw [app_data]; exact unhide HR2)
        clear ek h1 h2 h3 HR HR2 hez
        go_wp2
        go_roundw
        case rel => exact ⟨k + 1, A, cw ++ y, by omega, rfl, by go_num, by omega, unhide HZ, HR3, HO, HB⟩
        case measure => simp [intOf]; omega
      · have HK : (k = s.size ∨ (k < s.size ∧ byteAt s k = 59)) ∨ (k < s.size ∧ (byteAt s k = 32 ∨ byteAt s k = 9)) := by omega
        go_upto_region 6 with fail
        go_cut [33] (fun v wx => v = .bool true ∧ Hid (wx = wr))
        case first =>
          clear HR HO HB hch
          rcases HK with (hE | ⟨hlt, h1⟩) | ⟨hlt, h1 | h1⟩
          · have j0 : (((k : Nat) : Int) == ((s.size : Nat) : Int)) = true := beq_t (by omega)
            go_wp2
            go_meet
            exact ⟨rfl, hide rfl⟩
          · have ek := byteAt_eq s k hlt
            rw [ek] at h1
            have j0 : (((k : Nat) : Int) == ((s.size : Nat) : Int)) = false := beq_f (by omega)
            have t1 : (((s[k]'hlt).toNat : Int) == 59) = true := beq_t h1
            have j2 : ((k : Nat) : Int) < ((s.size : Nat) : Int) := by omega
            clear ek h1
            go_wp2
            go_meet
            exact ⟨rfl, hide rfl⟩
          · have ek := byteAt_eq s k hlt
            rw [ek] at h1
            have j0 : (((k : Nat) : Int) == ((s.size : Nat) : Int)) = false := beq_f (by omega)
            have t1 : (((s[k]'hlt).toNat : Int) == 59) = false := beq_f (by omega)
            have t2 : (((s[k]'hlt).toNat : Int) == 32) = true := beq_t h1
            have j2 : ((k : Nat) : Int) < ((s.size : Nat) : Int) := by omega
            clear ek h1
            go_wp2
            go_meet
            exact ⟨rfl, hide rfl⟩
          · have ek := byteAt_eq s k hlt
            rw [ek] at h1
            have j0 : (((k : Nat) : Int) == ((s.size : Nat) : Int)) = false := beq_f (by omega)
            have t1 : (((s[k]'hlt).toNat : Int) == 59) = false := beq_f (by omega)
            have t2 : (((s[k]'hlt).toNat : Int) == 32) = false := beq_f (by omega)
            have t3 : (((s[k]'hlt).toNat : Int) == 9) = true := beq_t h1
            have j2 : ((k : Nat) : Int) < ((s.size : Nat) : Int) := by omega
            clear ek h1
            go_wp2
            go_meet
            exact ⟨rfl, hide rfl⟩
        case rest =>
        obtain ⟨rfl, HWX⟩ := hcut
        rw [unhide HWX]
        clear HWX hch
        have HFL : Hid (((k = s.size ∨ (k < s.size ∧ byteAt s k = 59)) ∧ wdsL s = flush A cw.data.toList) ∨ (k < s.size ∧ (byteAt s k = 32 ∨ byteAt s k = 9) ∧ WRel s (flush A cw.data.toList) [] (k + 1))) := hide (by
          rcases HK with h | ⟨h1, h2⟩
          · refine Or.inl ⟨h, ?_⟩
            rcases h with h | ⟨h1, h2⟩
            · have := unhide HR; rw [h] at this; exact wrel_end this
            · exact wrel_semi (unhide HR) h1 h2
          · exact Or.inr ⟨h1, h2, wrel_blank (unhide HR) h1 h2⟩)
        clear HR HK
        by_cases he : cw.size = 0
        · have e0 : cw = ⟨#[]⟩ := ByteArray.ext (Array.eq_empty_of_size_eq_zero he)
          subst e0
          have HA : Hid (flush A (⟨#[]⟩ : ByteArray).data.toList = A) := hide (by unfold flush; rw [if_pos rfl, List.append_nil])
          rw [unhide HA] at HFL
          clear he HA hcz hcz2
          rcases unhide HFL with ⟨hE | ⟨hlt, h1⟩, h2⟩ | ⟨hlt, h1, h2⟩
          · have j0 : ¬ ((k : Nat) : Int) < ((s.size : Nat) : Int) := by omega
            have HR2 : Hid (WRel s (A) [] (k + 1)) := hide ⟨fun h => by omega, fun _ => h2⟩
            clear HFL h2
            go_wp2
            go_roundw
            case rel => exact ⟨k + 1, _, ⟨#[]⟩, by omega, rfl, by go_num, by first | omega | (simp; omega), by simp [ByteArray.size], HR2, HO, HB⟩
            case measure => simp [intOf]; omega
          · have ek := byteAt_eq s k hlt
            rw [ek] at h1
            have j0 : ((k : Nat) : Int) < ((s.size : Nat) : Int) := by omega
            have t1 : (((s[k]'hlt).toNat : Int) == 59) = true := beq_t h1
            have HOF : Hid (OwnS wr w.heap.size (.slice va A.length vc) (wdsL s)) := hide (by rw [h2]; exact unhide HO)
            clear HFL h2 ek h1
            go_wp2
            go_ret
            exact ⟨_, rfl, unhide HOF, unhide HB⟩
          · have ek := byteAt_eq s k hlt
            rw [ek] at h1
            have j0 : ((k : Nat) : Int) < ((s.size : Nat) : Int) := by omega
            have t1 : (((s[k]'hlt).toNat : Int) == 59) = false := beq_f (by omega)
            have HR2 := hide h2
            clear HFL h2 ek h1
            go_wp2
            go_roundw
            case rel => exact ⟨k + 1, _, ⟨#[]⟩, by omega, rfl, by go_num, by first | omega | (simp; omega), by simp [ByteArray.size], HR2, HO, HB⟩
            case measure => simp [intOf]; omega
        · have hne : ¬ cw.toList = [] := by
            rw [ByteArray.toList_eq]
            intro h
            have h2 : cw.data.toList.length = 0 := by rw [h]; rfl
            rw [ba_size] at h2
            exact he h2
          have t0 : cw.toList.isEmpty = false := by
            cases h : cw.toList.isEmpty with
            | false => rfl
            | true => exact absurd (List.isEmpty_iff.1 h) hne
          have HA : Hid (flush A cw.data.toList = A ++ [cw]) := hide (by
            unfold flush
            rw [if_neg (fun h => hne (by rw [ByteArray.toList_eq]; exact h)), bw_of])
          rw [unhide HA] at HFL
          have al : Below wr.heap.size wr (wr.alloc (.cells #[.string cw] 9)) := (Below.refl _ _).alloc (Nat.le_refl _) _
          have HO5 := hide ((unhide HO).belowS al)
          have HB5 := hide ((unhide HB).trans (al.mono (unhide HB).size))
          have HON := hide (cell_newS wr cw)
          have hsz := (unhide HB).size
          clear he HA hne HO HB al
          go_wp2_with (at_builtin; refine wpList_append_own _ rfl _ _ 41 rfl w.heap.size 9 i0 _ 1 16 Tryz.underlying41 hi0 hz0 hz1 hz2 rfl (by decide) (.slice va A.length vc) A.length (A.map Value.string) (by rfl) (unhide HO5) ⟨wr.heap.size, 0, none⟩ 1 1 [.string cw] rfl rfl (unhide HON) (by simp [Value.oneCell']) ?b3 ?b4 ?b5 ?_)
          case b3 => unfold maxLen; omega
          case b4 => omega
          case b5 => simp; omega
          intro v' w' hO hG _
          have HO6 : Hid (OwnS w' w.heap.size v' (A ++ [cw])) := hide (by
            unfold OwnS
            rw [List.length_append, List.map_append]
            exact hO)
          have HB6 := hide ((unhide HB5).grown hG (by simp; omega) (fun q e => (World.ownsRow.lt (unhide HO5) q e).1))
          clear hO hG HO5 HB5 HON hsz t0 hcz hcz2
          rcases unhide HFL with ⟨hE | ⟨hlt, h1⟩, h2⟩ | ⟨hlt, h1, h2⟩
          · have j0 : ¬ ((k : Nat) : Int) < ((s.size : Nat) : Int) := by omega
            have HR2 : Hid (WRel s (A ++ [cw]) [] (k + 1)) := hide ⟨fun h => by omega, fun _ => h2⟩
            clear HFL h2
            go_wp2
            go_roundw
            case rel => exact ⟨k + 1, _, ⟨#[]⟩, by omega, rfl, by go_num, by first | omega | (simp; omega), by simp [ByteArray.size], HR2, HO6, HB6⟩
            case measure => simp [intOf]; omega
          · have ek := byteAt_eq s k hlt
            rw [ek] at h1
            have j0 : ((k : Nat) : Int) < ((s.size : Nat) : Int) := by omega
            have t1 : (((s[k]'hlt).toNat : Int) == 59) = true := beq_t h1
            have HOF : Hid (OwnS w' w.heap.size v' (wdsL s)) := hide (by rw [h2]; exact unhide HO6)
            clear HFL h2 ek h1
            go_wp2
            go_ret
            exact ⟨_, rfl, unhide HOF, unhide HB6⟩
          · have ek := byteAt_eq s k hlt
            rw [ek] at h1
            have j0 : ((k : Nat) : Int) < ((s.size : Nat) : Int) := by omega
            have t1 : (((s[k]'hlt).toNat : Int) == 59) = false := beq_f (by omega)
            have HR2 := hide h2
            clear HFL h2 ek h1
            go_wp2
            go_roundw
            case rel => exact ⟨k + 1, _, ⟨#[]⟩, by omega, rfl, by go_num, by first | omega | (simp; omega), by simp [ByteArray.size], HR2, HO6, HB6⟩
            case measure => simp [intOf]; omega
    · have hin' : ¬ ((k : Nat) : Int) ≤ ((s.size : Nat) : Int) := by omega
      have HOF : Hid (OwnS wr w.heap.size (.slice va A.length vc) (wdsL s)) := hide (by rw [(unhide HR).2 (by omega)]; exact unhide HO)
      clear HR HO hin
      go_wp2
      go_ret
      exact ⟨_, rfl, unhide HOF, unhide HB⟩
end Go.Proofs.YthdgbdjagjagpaaGreatDoor

/-
  The document's reader: a label's look, operands. Conditions: lengths fit.
-/
namespace Go.Proofs.YthdgbdjagjagpaaGreatDoor
open Go.RowKit
set_option maxRecDepth 20000
set_option linter.unusedVariables false
set_option linter.unusedSimpArgs false

theorem col_last (s : ByteArray) (h : 1 ≤ s.size) : colB s = decide (byteAt s (s.size - 1) = 58) ∧ (byteAt s (s.size - 1) = 58 → stripB s = s.extract 0 (s.size - 1)) := by
  have hz := ba_size s
  have hne : s.data.toList ≠ [] := fun e => by rw [e] at hz; simp at hz; omega
  have hl : s.data.toList = s.data.toList.dropLast ++ [s.data.toList.getLast hne] := (List.dropLast_concat_getLast hne).symm
  have hb : byteAt s (s.size - 1) = ((s.data.toList.getLast hne).toNat : Int) := by
    unfold byteAt
    rw [← hz, ← List.getLast?_eq_getElem?, List.getLast?_eq_some_getLast hne]
    rfl
  have hx : s.extract 0 (s.size - 1) = bw s.data.toList.dropLast := by
    rw [ext_bw, List.drop_zero, ← hz, List.dropLast_eq_take]
  rw [hb, hx]
  unfold colB stripB
  generalize s.data.toList.getLast hne = c at hl hb
  rw [hl]
  by_cases hc : c = 58
  · subst hc
    obtain ⟨h1, h2⟩ := colB_hit s.data.toList.dropLast
    unfold colB at h1
    unfold stripB at h2
    rw [bw_data] at h1 h2
    refine ⟨by rw [h1]; rfl, fun _ => ?_⟩
    rw [h2]
    simp
  · have hd : ¬ ((c.toNat : Nat) : Int) = 58 := fun e => by
      have h5 : c.toNat = (58 : UInt8).toNat := by show c.toNat = 58; omega
      exact hc (UInt8.toNat_inj.1 h5)
    refine ⟨?_, fun h => absurd h hd⟩
    rw [decide_eq_false hd]
    cases hh : Lib.hasSuffix (s.data.toList.dropLast ++ [c]) [58] with
    | false => rfl
    | true =>
      unfold Lib.hasSuffix at hh
      have h3 : [(58 : UInt8)] <:+ s.data.toList.dropLast ++ [c] := by simpa using hh
      obtain ⟨t, ht⟩ := h3
      have := List.append_inj_right' ht rfl
      simp at this
      exact absurd this.symm hc
theorem fldL_ne : ∀ (l cur : List UInt8), ∀ x ∈ fldL cur l, x ≠ []
  | [], cur, x, hx => by
    rw [fldL] at hx
    split at hx
    · cases hx
    · rename_i h; rw [List.mem_singleton] at hx; rw [hx]; exact h
  | c :: r, cur, x, hx => by
    rw [fldL] at hx
    split at hx
    · split at hx
      · exact fldL_ne r [] x hx
      · rename_i h
        rcases List.mem_cons.1 hx with hx | hx
        · rw [hx]; exact h
        · exact fldL_ne r [] x hx
    · exact fldL_ne r _ x hx
theorem wds_ne (s : ByteArray) : ∀ x ∈ wdsL s, 1 ≤ x.size := by
  intro x hx
  rw [wds_eq] at hx
  obtain ⟨y, hy, rfl⟩ := List.mem_map.1 hx
  rw [bw_size]
  have := fldL_ne _ _ y hy
  cases y with
  | nil => exact absurd rfl this
  | cons => simp
def rlCells (x : ByteArray × Nat) : List Value := [.string x.1, .int .i64 (x.2 : Int)]
def rlVals (l : List (ByteArray × Nat)) : List Value := l.flatMap rlCells
def OwnRl (w : World) (base : Nat) (v : Value) (l : List (ByteArray × Nat)) : Prop := w.ownsRow base 105 2 v l.length (rlVals l)
theorem infoRl : (Tryz.prog.info? 105).map (fun i => (i.zero, i.size, i.bytes)) = some (some (.agg #[.string ⟨#[]⟩, .int .i64 0]), 2, 24) := by kernel_rfl
theorem OwnRl.nil (w : World) (base : Nat) : OwnRl w base (.slice none 0 0) [] := World.ownsRow_nil _ _ _ _
theorem OwnRl.slice {w : World} {base : Nat} {v : Value} {l : List (ByteArray × Nat)} (h : OwnRl w base v l) : ∃ ao cap, v = .slice ao l.length cap := by
  rcases h.2 with ⟨h1, h2⟩ | ⟨g, cap, cur, hv, _⟩
  · exact ⟨none, 0, by rw [h1, h2]⟩
  · exact ⟨_, cap, hv⟩
theorem OwnRl.at {w : World} {B : Nat} {ja : Option Addr} {jc : Nat} {J : List (ByteArray × Nat)} (h : OwnRl w B (.slice ja J.length jc) J) {k : Nat} {j : ByteArray × Nat} (hj : J[k]? = some j) : ∃ g, ja = some ⟨g, 0, none⟩ ∧ w.cell? ⟨g, k * 2, none⟩ = some (.string j.1) ∧ w.cell? ⟨g, k * 2 + 1, none⟩ = some (.int .i64 (j.2 : Int)) := by
  have hk : k < J.length := (List.getElem?_eq_some_iff.1 hj).1
  obtain ⟨g, rfl⟩ : ∃ g, ja = some ⟨g, 0, none⟩ := by
    rcases h.2 with ⟨_, h2⟩ | ⟨g', cap', cur, hv, _⟩
    · omega
    · injection hv with hv; exact ⟨g', hv⟩
  have hx : ∀ (J : List (ByteArray × Nat)) (k : Nat) (j : ByteArray × Nat), J[k]? = some j → (rlVals J)[k * 2]? = some (.string j.1) ∧ (rlVals J)[k * 2 + 1]? = some (.int .i64 (j.2 : Int)) := by
    intro J
    induction J with
    | nil => intro k j h; simp at h
    | cons y t ih =>
      intro k j h
      cases k with
      | zero =>
        have e : y = j := by simpa using h
        subst e
        exact ⟨rfl, rfl⟩
      | succ k =>
        obtain ⟨h1, h2⟩ := ih k j (by simpa using h)
        have e : rlVals (y :: t) = rlCells y ++ rlVals t := by simp [rlVals]
        rw [e]
        refine ⟨?_, ?_⟩
        · rw [List.getElem?_append_right (by simp [rlCells]; omega), ← h1]; congr 1; simp [rlCells]; omega
        · rw [List.getElem?_append_right (by simp [rlCells]; omega), ← h2]; congr 1; simp [rlCells]; omega
  obtain ⟨h1, h2⟩ := hx J k j hj
  have hs := fun i (hi : i < J.length * 2) => (own_set h (i := i) hi (.int .i64 0)).2.1
  exact ⟨g, rfl, (hs _ (by omega)).trans h1, (hs _ (by omega)).trans h2⟩
theorem OwnRl.below {w w' : World} {base : Nat} {v : Value} {l : List (ByteArray × Nat)} (h : OwnRl w base v l) (hb : Below w.heap.size w w') (hB : base ≤ w.heap.size) : OwnRl w' base v l :=
  own_kq h (Kq.of_below (B := base) (ts := []) (gs := []) hb hB) (by simp) (by simp)
def fndN (L : List (ByteArray × Nat)) (s : ByteArray) : Int := match findLb L s with | some n => (n : Int) | none => -1
theorem find_step {L : List (ByteArray × Nat)} {k : Nat} {x : ByteArray × Nat} {s : ByteArray} (hx : L[k]? = some x) : findLb (L.drop k) s = if x.1.data.toList = s.data.toList then some x.2 else findLb (L.drop (k + 1)) s := by
  obtain ⟨hk, e⟩ := List.getElem?_eq_some_iff.1 hx
  rw [List.drop_eq_getElem_cons hk, e, findLb]
set_option maxHeartbeats 4000000 in
theorem refFind_any (g B : Nat) (vb vj : Value) (ao : Option Addr) (cap : Nat) (L : List (ByteArray × Nat)) (s : ByteArray) (w : World) (hR : Bx w g 58 #[vb, vj, .slice ao L.length cap]) (hL : OwnRl w B (.slice ao L.length cap) L) (hB : B ≤ w.heap.size) (hn : L.length ≤ 1000000) :
    Calls Tryz.prog 24 #[.pointer (some ⟨g, 0, none⟩), .string s] w fun e w' => e = .returned (.int .i64 (fndN L s)) ∧ Below w.heap.size w w' := by
  have HR := hide hR
  have HL := hide hL
  have HB0 := hide hB
  have c2 := hR.c 2 (v := .slice ao L.length cap) rfl
  clear hR hL hB
  go_enter Tryz.func24, Tryz.ntmps24
  go_wp2
  go_loopw [12] (fun i wr => ∃ k : Nat, k ≤ L.length ∧ i = .int .i64 (k : Int) ∧ Hid (findLb L s = findLb (L.drop k) s) ∧ Hid (Below w.heap.size w wr)) (fun i _ => L.length - (intOf i).toNat)
  case atStart => exact ⟨0, by omega, rfl, hide rfl, hide (Below.refl _ _)⟩
  case round =>
    obtain ⟨k, hk, rfl, HN, HB⟩ := hrel
    clear c2
    by_cases hkl : k < L.length
    · have j1 : ((k : Nat) : Int) < ((L.length : Nat) : Int) := by omega
      have hx := List.getElem?_eq_getElem hkl
      generalize L[k] = x at hx
      obtain ⟨b, rfl, c0, c1⟩ := OwnRl.at (OwnRl.below (unhide HL) (unhide HB) (unhide HB0)) hx
      have HST := hide (find_step (s := s) hx)
      obtain ⟨nm, at_⟩ := x
      simp only [] at c0 c1 HST
      have hal : Below wr.heap.size wr (wr.alloc (.cells #[.string nm, .int .i64 (at_ : Int)] 105)) := (Below.refl _ _).alloc (Nat.le_refl _) _
      have I1 : Hid (Bx (wr.alloc (.cells #[.string nm, .int .i64 (at_ : Int)] 105)) wr.heap.size 105 #[.string nm, .int .i64 (at_ : Int)]) := hide (heap_alloc_new wr _)
      have HB1 := hide ((unhide HB).trans (hal.mono (unhide HB).size))
      clear hx hal
      go_upto_region 4 with fail
      generalize (wr.alloc (.cells #[.string nm, .int .i64 (at_ : Int)] 105)) = w1 at I1 HB1 ⊢
      generalize wr.heap.size = gi at I1 ⊢
      clear c0 c1 HB
      have d0 := (unhide I1).c 0 (v := .string nm) rfl
      have d1 := (unhide I1).c 1 (v := .int .i64 (at_ : Int)) rfl
      by_cases he : nm.data.toList = s.data.toList
      · have t0 : (nm.toList == s.toList) = true := by rw [ByteArray.toList_eq, ByteArray.toList_eq]; exact beq_iff_eq.2 he
        have HF : Hid (fndN L s = (at_ : Int)) := hide (by unfold fndN; rw [unhide HN, unhide HST, if_pos he])
        clear he
        go_wp2
        go_ret
        rw [unhide HF]
        exact ⟨rfl, unhide HB1⟩
      · have t0 : (nm.toList == s.toList) = false := by rw [ByteArray.toList_eq, ByteArray.toList_eq]; exact beq_eq_false_iff_ne.2 he
        have HN2 : Hid (findLb L s = findLb (L.drop (k + 1)) s) := hide (by rw [unhide HN, unhide HST, if_neg he])
        clear he
        go_wp2
        go_roundw
        case rel => exact ⟨k + 1, by omega, by go_num, HN2, HB1⟩
        case measure => simp [intOf]; omega
    · obtain rfl : k = L.length := by omega
      have HF : Hid (fndN L s = -1) := hide (by unfold fndN; rw [unhide HN, List.drop_eq_nil_of_le (Nat.le_refl _)]; rfl)
      go_wp2
      go_ret
      rw [unhide HF]
      exact ⟨rfl, unhide HB⟩
end Go.Proofs.YthdgbdjagjagpaaGreatDoor

/-
  The document's reader: operands. Conditions: lengths fit.
-/
namespace Go.Proofs.YthdgbdjagjagpaaGreatDoor
open Go.RowKit
set_option maxRecDepth 20000
set_option linter.unusedVariables false
set_option linter.unusedSimpArgs false

theorem numX_yes {s : ByteArray} (h : numB s = true) : numX s = (if farB s then 0 else numR s, true, farB s) := by unfold numX; rw [if_pos h]
theorem numX_no {s : ByteArray} (h : numB s = false) : numX s = (0, false, false) := by unfold numX; rw [if_neg (by rw [h]; decide)]
theorem numX_bd (s : ByteArray) : -9223372036854775808 ≤ (numX s).1 ∧ (numX s).1 ≤ 9223372036854775807 := by
  cases h : numB s with
  | false => rw [numX_no h]; decide
  | true =>
    rw [numX_yes h]
    cases hf : farB s with
    | true => exact ⟨by show (-9223372036854775808 : Int) ≤ 0; decide, by show (0 : Int) ≤ 9223372036854775807; decide⟩
    | false =>
      have := (num_near h hf).2
      simp only [Bool.false_eq_true, if_false]
      unfold numR
      split <;> omega
def nAt (ws : List ByteArray) (k j : Nat) : Int := if j < k then (match ws[j]? with | some s => (numX s).1 | none => 0) else 0
theorem ops_bad {ws : List ByteArray} {k : Nat} {x : ByteArray} (h : ws[k]? = some x) (hn : numB x = false) : opsE ws = 231 := by
  unfold opsE
  rw [if_neg]
  intro ha
  have := List.all_eq_true.1 ha x (List.mem_of_getElem? h)
  rw [hn] at this
  cases this
theorem ops_end {ws : List ByteArray} (h : ws.all numB = true) : opsE ws = if ws.any farB then 5 else 0 := by unfold opsE; rw [if_pos h]
theorem nAt_end {ws : List ByteArray} (h : opsE ws = 0) (j : Nat) : nAt ws ws.length j = valAt ws j := by
  have ha : ws.all numB = true := by
    cases hh : ws.all numB with
    | true => rfl
    | false => unfold opsE at h; rw [hh] at h; simp at h
  rw [ops_end ha] at h
  have hf : ∀ s ∈ ws, farB s = false := fun s hs => by
    cases hh : farB s with
    | false => rfl
    | true => rw [List.any_eq_true.2 ⟨s, hs, hh⟩] at h; simp at h
  unfold nAt valAt
  cases hj : ws[j]? with
  | none => split <;> rfl
  | some s =>
    have hl := (List.getElem?_eq_some_iff.1 hj).1
    have hm := List.mem_of_getElem? hj
    have hn := List.all_eq_true.1 ha s hm
    rw [if_pos hl]
    show (numX s).1 = valN s
    rw [numX_yes hn, hf s hm, (num_near hn (hf s hm)).1]
    rfl
theorem WsAt.setI {w : World} {ao : Option Addr} {ws : List ByteArray} {gi : Nat} {t : TypeId} {cs : Array Value} (h : WsAt w ao ws) (hb : Bx w gi t cs) (hi : ∀ v ∈ cs.toList, ∀ s, v ≠ .string s) (i : Nat) (v : Value) : WsAt (w.setCell ⟨gi, i, none⟩ v) ao ws := fun j x hx => by
  obtain ⟨b, off, e, hc, hz⟩ := h j x hx
  refine ⟨b, off, e, ?_, hz⟩
  rw [World.cell?_setCell_other]
  · exact hc
  · intro e2
    injection e2 with e3 e4
    subst e3
    have h2 := cell_of_row _ _ (off + j) _ _ _ hb
    rw [hc] at h2
    have h3 : Value.string x ∈ cs.toList := by
      have := (Array.mem_of_getElem? h2.symm)
      simpa using this
    exact hi _ h3 x rfl
def insC (op : Nat) (a b : Int) : Array Value := #[.int .i64 0, .int .u8 (op : Int), .int .i64 a, .int .i64 b]
theorem insC_no (op : Nat) (a b : Int) : ∀ v ∈ (insC op a b).toList, ∀ s, v ≠ .string s := by
  intro v hv s
  unfold insC at hv
  simp at hv
  rcases hv with rfl | rfl | rfl | rfl <;> simp
def OpsP (w w' : World) (B gi op : Nat) (ws : List ByteArray) (e : Ending) : Prop :=
  e = .returned (.int .i64 (opsE ws)) ∧ Kq B [72] [] w w' ∧ ∃ a b, Bx w' gi 72 (insC op a b) ∧ (opsE ws = 0 → a = valAt ws 0 ∧ b = valAt ws 1)
set_option maxHeartbeats 4000000 in
theorem refOps_any (B gi op : Nat) (ao : Option Addr) (cap : Nat) (ws : List ByteArray) (w : World) (hI : Bx w gi 72 (insC op 0 0)) (hB : B ≤ gi) (hW : WsAt w ao ws) (hl : ws.length ≤ 2) :
    Calls Tryz.prog 57 #[.pointer (some ⟨gi, 0, none⟩), .slice ao ws.length cap] w fun e w' => OpsP w w' B gi op ws e := by
  have HI := hide hI
  have HW := hide hW
  have HBB := hide hB
  clear hI hW hB
  go_enter Tryz.func57, Tryz.ntmps57
  go_wp2
  go_loopw [5, 13] (fun f i wr => ∃ k : Nat, k ≤ ws.length ∧ i = .int .i64 (k : Int) ∧ f = .bool ((ws.take k).any farB) ∧ Hid ((ws.take k).all numB = true) ∧ Hid (Bx wr gi 72 (insC op (nAt ws k 0) (nAt ws k 1))) ∧ Hid (WsAt wr ao ws) ∧ Hid (Kq B [72] [] w wr)) (fun _ i _ => ws.length - (intOf i).toNat)
  case atStart => exact ⟨0, by omega, rfl, rfl, hide rfl, HI, HW, hide (Kq.refl _ _ _ _)⟩
  case round =>
    clear HI HW
    obtain ⟨k, hk, rfl, rfl, HA, HI, HW, HK⟩ := hrel
    obtain ⟨fr, HFR⟩ : ∃ q, Hid ((ws.take k).any farB = q) := ⟨_, hide rfl⟩
    rw [unhide HFR]
    by_cases hkl : k < ws.length
    · have j1 : ((k : Nat) : Int) < ((ws.length : Nat) : Int) := by omega
      have hx := List.getElem?_eq_getElem hkl
      generalize ws[k] = x at hx
      obtain ⟨b, off, rfl, hc, hz⟩ := unhide HW k x hx
      have HX := hide hx
      have HTA : Hid (ws.take (k + 1) = ws.take k ++ [x]) := hide (take_snoc hx)
      have HNU := hide (refNumber_any x wr hz)
      have hbd := numX_bd x
      clear hx hz
      cases hn : numB x with
      | false =>
        have HF : Hid (opsE ws = 231) := hide (ops_bad (unhide HX) hn)
        rw [numX_no hn] at HNU
        clear hn hbd HTA
        go_wp2_with (go_at_call 86; refine (unhide HNU).mono ?_; rintro e w' ⟨rfl, rfl⟩)
        go_ret
        exact ⟨by rw [unhide HF]; rfl, unhide HK, _, _, unhide HI, fun h => absurd (h.symm.trans (unhide HF)) (by decide)⟩
      | true =>
        have HA2 : Hid ((ws.take (k + 1)).all numB = true) := hide (by rw [unhide HTA, List.all_append, unhide HA]; simp [hn])
        have HFR2 : Hid ((ws.take (k + 1)).any farB = (fr || farB x)) := hide (by rw [unhide HTA, List.any_append, unhide HFR]; simp)
        have hne := numX_yes hn
        obtain ⟨m, HM⟩ : ∃ m, Hid ((numX x).1 = m) := ⟨_, hide rfl⟩
        obtain ⟨q, HQ⟩ : ∃ q, Hid (farB x = q) := ⟨_, hide rfl⟩
        have e1 : (numX x).2.1 = true := by rw [hne]
        have e2 : (numX x).2.2 = q := by rw [hne]; exact unhide HQ
        rw [unhide HM, e1, e2] at HNU
        rw [unhide HM] at hbd
        rw [unhide HQ] at HFR2
        clear hne e1 e2 hn HTA
        have HS0 : Hid (∀ j, j ≠ k → nAt ws (k + 1) j = nAt ws k j) := hide (fun j hj => by
          unfold nAt
          by_cases h : j < k
          · rw [if_pos h, if_pos (by omega)]
          · rw [if_neg h, if_neg (by omega)])
        have HS1 : Hid (nAt ws (k + 1) k = m) := hide (by unfold nAt; rw [if_pos (by omega), unhide HX]; exact unhide HM)
        by_cases h0 : k = 0
        · subst h0
          have t2 : ((((0 : Nat) : Int)) == 0) = true := beq_t (by omega)
          have hc0 : wr.cell? ⟨b, off, none⟩ = some (.string x) := hc
          have HI2 : Hid (Bx (wr.setCell ⟨gi, 2, none⟩ (.int .i64 m)) gi 72 (insC op (nAt ws 1 0) (nAt ws 1 1))) := hide (by
            have := (unhide HI).set 2 (.int .i64 m) rfl
            rw [unhide HS1, unhide HS0 1 (by decide)]
            exact this)
          have HW2 : Hid (WsAt (wr.setCell ⟨gi, 2, none⟩ (.int .i64 m)) (some ⟨b, off, none⟩) ws) := hide (WsAt.setI (unhide HW) (unhide HI) (insC_no _ _ _) 2 _)
          have HK2 : Hid (Kq B [72] [] w (wr.setCell ⟨gi, 2, none⟩ (.int .i64 m))) := hide ((unhide HK).trans (Kq.set (unhide HI) (unhide HBB) (by simp) 2 _))
          have d2 := (unhide HI).c 2 (v := .int .i64 (nAt ws 0 0)) rfl
          have f2 := (unhide HI).f 2
          clear HA HI HW HK HX HS0 HS1 HM HQ HFR
          cases q with
          | true =>
            rw [Bool.or_true] at HFR2
            go_wp2_with (go_at_call 86; refine (unhide HNU).mono ?_; rintro e w' ⟨rfl, rfl⟩)
            go_roundw
            case rel => exact ⟨1, by omega, by go_num, by rw [unhide HFR2], HA2, HI2, HW2, HK2⟩
            case measure => simp [intOf]; omega
          | false =>
            rw [Bool.or_false] at HFR2
            go_wp2_with (go_at_call 86; refine (unhide HNU).mono ?_; rintro e w' ⟨rfl, rfl⟩)
            go_roundw
            case rel => exact ⟨1, by omega, by go_num, by rw [unhide HFR2], HA2, HI2, HW2, HK2⟩
            case measure => simp [intOf]; omega
        · have t2 : ((((k : Nat) : Int)) == 0) = false := beq_f (by omega)
          obtain rfl : k = 1 := by omega
          have HI2 : Hid (Bx (wr.setCell ⟨gi, 3, none⟩ (.int .i64 m)) gi 72 (insC op (nAt ws 2 0) (nAt ws 2 1))) := hide (by
            have := (unhide HI).set 3 (.int .i64 m) rfl
            rw [unhide HS1, unhide HS0 0 (by decide)]
            exact this)
          have HW2 : Hid (WsAt (wr.setCell ⟨gi, 3, none⟩ (.int .i64 m)) (some ⟨b, off, none⟩) ws) := hide (WsAt.setI (unhide HW) (unhide HI) (insC_no _ _ _) 3 _)
          have HK2 : Hid (Kq B [72] [] w (wr.setCell ⟨gi, 3, none⟩ (.int .i64 m))) := hide ((unhide HK).trans (Kq.set (unhide HI) (unhide HBB) (by simp) 3 _))
          have d3 := (unhide HI).c 3 (v := .int .i64 (nAt ws 1 1)) rfl
          have f3 := (unhide HI).f 3
          clear HA HI HW HK HX HS0 HS1 HM HQ HFR h0
          cases q with
          | true =>
            rw [Bool.or_true] at HFR2
            go_wp2_with (go_at_call 86; refine (unhide HNU).mono ?_; rintro e w' ⟨rfl, rfl⟩)
            go_roundw
            case rel => exact ⟨2, by omega, by go_num, by rw [unhide HFR2], HA2, HI2, HW2, HK2⟩
            case measure => simp [intOf]; omega
          | false =>
            rw [Bool.or_false] at HFR2
            go_wp2_with (go_at_call 86; refine (unhide HNU).mono ?_; rintro e w' ⟨rfl, rfl⟩)
            go_roundw
            case rel => exact ⟨2, by omega, by go_num, by rw [unhide HFR2], HA2, HI2, HW2, HK2⟩
            case measure => simp [intOf]; omega
    · obtain rfl : k = ws.length := by omega
      have HE : Hid (opsE ws = if fr then 5 else 0) := hide (by
        have h1 := unhide HA
        have h2 := unhide HFR
        rw [List.take_length] at h1 h2
        rw [ops_end h1, h2])
      clear HA HFR HW
      cases fr with
      | true =>
        go_wp2
        go_ret
        exact ⟨by rw [unhide HE]; rfl, unhide HK, _, _, unhide HI, fun h => ⟨nAt_end h 0, nAt_end h 1⟩⟩
      | false =>
        go_wp2
        go_ret
        exact ⟨by rw [unhide HE]; rfl, unhide HK, _, _, unhide HI, fun h => ⟨nAt_end h 0, nAt_end h 1⟩⟩
end Go.Proofs.YthdgbdjagjagpaaGreatDoor

/-
  What is read may be printed: each jump of what Parse tells leads to an instruction. No Go in it.
-/
namespace Go.Proofs.YthdgbdjagjagpaaGreatDoor
open Go.RowKit
set_option maxRecDepth 20000
set_option linter.unusedVariables false
set_option linter.unusedSimpArgs false

theorem encL_one {op : Nat} {a b : Int} (h : eE op a b = 0) : eL op a b = encL op a b := by unfold eL; rw [if_pos h]
theorem eE_in {op : Nat} {a b : Int} (h : eE op a b = 0) : inD op a b = true := by
  have ho := eE_op h
  unfold eE at h
  rw [if_pos ho] at h
  cases hi : inD op a b with
  | true => rfl
  | false => rw [hi] at h; simp at h
/-- Instructions with their addresses. -/
def plc : List Ix → Nat → List Ix
  | [], _ => []
  | x :: t, k => ⟨(k : Int), x.op, x.a, x.b⟩ :: plc t (k + (eL x.op x.a x.b).length)
theorem dec_one {x : Ix} (h : eE x.op x.a x.b = 0) (r : List UInt8) (k : Nat) : dE (eL x.op x.a x.b ++ r) = 0 ∧ ixD k (eL x.op x.a x.b ++ r) = ⟨(k : Int), x.op, x.a, x.b⟩ ∧ sizeD x.op = (eL x.op x.a x.b).length ∧ 1 ≤ (eL x.op x.a x.b).length := by
  have ho := eE_op h
  have hi := eE_in h
  obtain ⟨d1, d2, d3⟩ := dec_of_enc x.op x.a x.b ho hi r
  have hl := encL_length x.op x.a x.b
  have hsz : sizeD x.op = 1 + wA x.op + wB x.op := by unfold sizeD; rw [if_pos ho]
  rw [encL_one h]
  have e : encL x.op x.a x.b ++ r = UInt8.ofNat x.op :: (beI x.a (wA x.op) ++ beI x.b (wB x.op) ++ r) := by unfold encL; simp
  refine ⟨?_, ?_, by omega, by omega⟩
  · rw [e]
    unfold dE
    simp only []
    rw [d1, if_pos ho, if_neg (by rw [hsz]; simp [beI_length]; omega), d2, d3, hi]
    rfl
  · rw [e]
    unfold ixD
    simp only []
    rw [d1, d2, d3]
theorem sc_encs : ∀ (l : List Ix) (L : List UInt8) (f k : Nat), (∀ x ∈ l, eE x.op x.a x.b = 0) → L.drop k = encs l → k + (encs l).length = L.length → (encs l).length < f → scD L f k = (plc l k, 0, 0)
  | [], L, f, k, _, hd, hl, hf => by
    cases f with
    | zero => omega
    | succ f => rw [sc_end (by simp [encs] at hl; omega)]; rfl
  | x :: t, L, f, k, h, hd, hl, hf => by
    cases f with
    | zero => omega
    | succ f =>
      rw [encs_cons] at hd hl hf
      rw [List.length_append] at hl hf
      obtain ⟨d1, d2, d3, d4⟩ := dec_one (h x List.mem_cons_self) (encs t) k
      rw [sc_good (by omega) (by rw [hd]; exact d1), hd, d2]
      simp only []
      rw [d3]
      have hd2 : L.drop (k + (eL x.op x.a x.b).length) = encs t := by rw [← List.drop_drop, hd, List.drop_left]
      rw [sc_encs t L f _ (fun y hy => h y (List.mem_cons_of_mem _ hy)) hd2 (by omega) (by omega)]
      rfl
theorem scR_encs {l : List Ix} (h : ∀ x ∈ l, eE x.op x.a x.b = 0) (hl : (encs l).length ≤ 4096) : scR (encs l) = (plc l 0, 0, 0) := by
  have h1 := sc_encs l (encs l) ((encs l).length + 1) 0 h rfl (by omega) (by omega)
  unfold scR
  rw [if_neg (by omega), h1, if_pos rfl]
theorem plc_get : ∀ (l : List Ix) (k j : Nat), (plc l k)[j]? = (l[j]?).map fun x => ⟨((k + adr l j : Nat) : Int), x.op, x.a, x.b⟩
  | [], k, j => by simp [plc]
  | x :: t, k, 0 => by rw [plc, adr_zero]; simp
  | x :: t, k, j + 1 => by
    rw [plc, List.getElem?_cons_succ, plc_get t, List.getElem?_cons_succ, adr_succ, Nat.add_assoc]
theorem ckJ_well (l : List Ix) : ∀ (r : List Ix), (∀ x ∈ r, jmpD x.op = true → hasP l x.a = true) → ckJ l r = none
  | [], _ => rfl
  | x :: t, h => by
    rw [ckJ, if_neg, ckJ_well l t (fun y hy => h y (List.mem_cons_of_mem _ hy))]
    cases hj : jmpD x.op with
    | false => simp
    | true => rw [h x List.mem_cons_self hj]; simp

/-- Labels stand at instructions or behind the last; each jump waits for its label. -/
structure LbOk (st : Rs) : Prop where
  lab : ∀ x ∈ st.labs, ∃ k, k ≤ st.list.length ∧ x.2 = adr st.list k
  jmp : ∀ (k : Nat) x, st.list[k]? = some x → jmpN x.op = true → ∃ j ∈ st.jumps, j.place = k
theorem lbOk_nil : LbOk ⟨[], [], 0, []⟩ := ⟨fun x h => (by cases h), fun k x h => (by simp at h)⟩
theorem LbOk.put {st st0 : Rs} {op : Nat} {a b : Int} (h : LbOk st0) (e1 : st.list = st0.list) (e2 : st.labs = st0.labs) (hj : ∀ j ∈ st0.jumps, j ∈ st.jumps) (hn : jmpN op = true → ∃ j ∈ st.jumps, j.place = st0.list.length) (h0 : (putS st op a b).1 = 0) : LbOk (putS st op a b).2 := by
  obtain ⟨p1, p2, p3⟩ := putS_err h0
  rw [p3]
  refine ⟨fun x hx => ?_, fun k x hk hx => ?_⟩
  · have hx : x ∈ st0.labs := by rw [← e2]; exact hx
    obtain ⟨k, hk, e⟩ := h.lab x hx
    show ∃ k, k ≤ (st.list ++ _).length ∧ x.2 = adr (st.list ++ _) k
    rw [e1]
    exact ⟨k, by rw [List.length_append]; omega, by rw [adr_app _ _ _ hk]; exact e⟩
  · have hk : (st.list ++ [⟨0, op, a, b⟩])[k]? = some x := hk
    show ∃ j ∈ st.jumps, j.place = k
    rw [e1] at hk
    by_cases hl : k < st0.list.length
    · rw [List.getElem?_append_left hl] at hk
      obtain ⟨j, h1, h2⟩ := h.jmp k x hk hx
      exact ⟨j, hj j h1, h2⟩
    · rw [List.getElem?_append_right (by omega)] at hk
      have hz : k - st0.list.length = 0 := by have := (List.getElem?_eq_some_iff.1 hk).1; simp at this; omega
      rw [hz] at hk
      have hx2 : (⟨0, op, a, b⟩ : Ix) = x := by simpa using hk
      subst hx2
      obtain ⟨j, h1, h2⟩ := hn hx
      exact ⟨j, h1, by omega⟩
theorem LbOk.read {st : Rs} {i : Nat} {ws : List ByteArray} (h : LbOk st) (hg : GdS st) (h0 : (readS st i ws).1 = 0) : LbOk (readS st i ws).2 := by
  cases ws with
  | nil => exact h
  | cons w r =>
    rw [readS_cons] at h0 ⊢
    split
    · rename_i e; rw [if_pos e] at h0
      unfold nameS at h0 ⊢
      split
      · rename_i e2; rw [if_pos e2] at h0; exact absurd h0 (show ¬ (230 : Int) = 0 by decide)
      · refine ⟨fun x hx => ?_, h.jmp⟩
        rcases List.mem_append.1 hx with hx | hx
        · exact h.lab x hx
        · rw [List.mem_singleton] at hx
          rw [hx]
          exact ⟨st.list.length, Nat.le_refl _, by rw [adr_all]; exact hg.sz⟩
    · rename_i e; rw [if_neg e] at h0
      split
      · rename_i e2; rw [if_pos e2] at h0; exact absurd h0 (show ¬ (231 : Int) = 0 by decide)
      · rename_i e2; rw [if_neg e2] at h0
        split
        · rename_i e3; rw [if_pos e3] at h0
          unfold jumpS at h0 ⊢
          split
          · rename_i e4; rw [if_pos e4] at h0
            exact LbOk.put (st0 := st) h rfl rfl (fun j hj => List.mem_append_left _ hj) (fun _ => ⟨_, List.mem_append_right _ List.mem_cons_self, rfl⟩) h0
          · rename_i e4; rw [if_neg e4] at h0; exact absurd h0 (show ¬ (231 : Int) = 0 by decide)
        · rename_i e3; rw [if_neg e3] at h0
          unfold plainS at h0 ⊢
          split
          · rename_i e4; rw [if_pos e4] at h0
            exact LbOk.put (st0 := st) h rfl rfl (fun j hj => hj) (fun hh => absurd hh e3) h0
          · rename_i e4; rw [if_neg e4] at h0; exact absurd h0 (show ¬ (231 : Int) = 0 by decide)
theorem goS_keeps : ∀ (X : List (List ByteArray)) (i : Nat) (st : Rs), LbOk st → GdS st → labBd st → (goS X i st).2.1 = 0 → LbOk (goS X i st).2.2 ∧ GdS (goS X i st).2.2 ∧ labBd (goS X i st).2.2
  | [], i, st, h1, h2, h3, _ => ⟨h1, h2, h3⟩
  | ws :: t, i, st, h1, h2, h3, h0 => by
    rw [goS] at h0 ⊢
    by_cases e : (readS st i ws).1 = 0
    · rw [if_neg (fun hh => hh e)] at h0 ⊢
      exact goS_keeps t (i + 1) _ (h1.read h2 e) (h2.read e) h3.read h0
    · rw [if_pos e] at h0
      exact absurd h0 e
/-- What leading does to a list. -/
theorem lead_does (labs : List (ByteArray × Nat)) (size : Nat) (hsz : size ≤ 4096) (hbd : ∀ x ∈ labs, x.2 ≤ size) : ∀ (J : List Jm) (l : List Ix), (∀ j ∈ J, ∃ x, l[j.place]? = some x ∧ jmpN x.op = true) → (∀ x ∈ l, eE x.op x.a x.b = 0) → (leadS labs size J l).2.1 = 0 →
    (∀ m, adr (leadS labs size J l).2.2 m = adr l m) ∧ (leadS labs size J l).2.2.length = l.length ∧ (∀ x ∈ (leadS labs size J l).2.2, eE x.op x.a x.b = 0) ∧
    ∀ (k : Nat) x, (leadS labs size J l).2.2[k]? = some x → (∃ y, l[k]? = some y ∧ y.op = x.op) ∧ ((∃ j ∈ J, j.place = k) → ∃ s n, findLb labs s = some n ∧ n ≠ size ∧ x.a = (n : Int)) ∧ ((¬ ∃ j ∈ J, j.place = k) → l[k]? = some x)
  | [], l, _, he, _ => ⟨fun _ => rfl, rfl, he, fun k x hx => ⟨⟨x, hx, rfl⟩, fun ⟨j, hj, _⟩ => (by cases hj), fun _ => hx⟩⟩
  | j :: J, l, hp, he, h0 => by
    obtain ⟨x0, hx0, hj0⟩ := hp j List.mem_cons_self
    rw [leadS] at h0 ⊢
    cases hf : findLb labs j.name with
    | none => rw [hf] at h0; exact absurd h0 (show ¬ (230 : Int) = 0 by decide)
    | some n =>
      rw [hf] at h0
      simp only [] at h0 ⊢
      by_cases hn : n = size
      · rw [if_pos hn] at h0; exact absurd h0 (show ¬ (230 : Int) = 0 by decide)
      · rw [if_neg hn] at h0 ⊢
        obtain ⟨y0, hy0, hy1⟩ := findLb_mem hf
        have hnb := hbd y0 hy0
        have hx0e := he x0 (List.mem_of_getElem? hx0)
        have n0 : (0 : Int) ≤ (n : Int) := by omega
        have n1 : (n : Int) ≤ 65535 := by omega
        obtain ⟨i1, i2, i3, i4⟩ := lead_does labs size hsz hbd J (setA l j.place (n : Int)) (fun q hq => by
          obtain ⟨x, h1, h2⟩ := hp q (List.mem_cons_of_mem _ hq)
          rw [setA_get]
          split
          · exact ⟨{ x with a := (n : Int) }, by rw [h1]; rfl, h2⟩
          · exact ⟨x, h1, h2⟩) (setA_ok he hx0 hj0 n0 n1) h0
        refine ⟨fun m => (i1 m).trans (adr_set l j.place m (n : Int) x0 hx0 hj0 hx0e n0 n1), i2.trans (setA_len _ _ _), i3, fun k x hx => ?_⟩
        obtain ⟨⟨y, k1, k1'⟩, k2, k3⟩ := i4 k x hx
        rw [setA_get] at k1
        refine ⟨?_, ?_, ?_⟩
        · split at k1
          · cases hy : l[k]? with
            | none => rw [hy] at k1; cases k1
            | some z => rw [hy] at k1; injection k1 with k1; exact ⟨z, rfl, by rw [← k1', ← k1]⟩
          · exact ⟨y, k1, k1'⟩
        · rintro ⟨q, hq, hqk⟩
          by_cases hin : ∃ q ∈ J, q.place = k
          · exact k2 hin
          · have h5 := k3 hin
            have hjk : j.place = k := by
              rcases List.mem_cons.1 hq with e | hq
              · rw [← e]; exact hqk
              · exact absurd ⟨q, hq, hqk⟩ hin
            rw [setA_get, if_pos hjk.symm, ← hjk, hx0] at h5
            injection h5 with h5
            exact ⟨j.name, n, hf, hn, by rw [← h5]⟩
        · intro hno
          have hin : ¬ ∃ q ∈ J, q.place = k := fun ⟨q, hq, e⟩ => hno ⟨q, List.mem_cons_of_mem _ hq, e⟩
          have hjk : ¬ k = j.place := fun e => hno ⟨j, List.mem_cons_self, e.symm⟩
          have h5 := k3 hin
          rwa [setA_get, if_neg hjk] at h5
/-- What is read: its bytes, each of whose jumps leads to an instruction. -/
theorem read_shape {s : ByteArray} (h : (parS s).2.2 = 0) : ∃ l, parS s = (encs l, 0, 0) ∧ (encs l).length ≤ 4096 ∧ (∀ x ∈ l, eE x.op x.a x.b = 0) ∧ ∀ x ∈ l, jmpN x.op = true → ∃ m, m < l.length ∧ x.a = (adr l m : Int) := by
  by_cases hs : 65536 < s.size
  · unfold parS at h; rw [if_pos hs] at h; exact absurd h (show ¬ (4 : Int) = 0 by decide)
  rw [parS_lin hs] at h ⊢
  have hk := goS_keeps (bwW ((linF [] s.data.toList).map wrdL)) 1 ⟨[], [], 0, []⟩ lbOk_nil gdS_nil (fun x hx => by cases hx)
  generalize goS (bwW ((linF [] s.data.toList).map wrdL)) 1 ⟨[], [], 0, []⟩ = R at h hk ⊢
  obtain ⟨i, e, st⟩ := R
  unfold finG at h ⊢
  simp only [] at h hk ⊢
  by_cases he : e = 0
  · rw [if_neg (fun hh => hh he)] at h ⊢
    obtain ⟨h1, h2, h3⟩ := hk he
    have hd := lead_does st.labs st.size h2.le h3 st.jumps st.list h2.jmp h2.ok
    generalize leadS st.labs st.size st.jumps st.list = Q at h hd ⊢
    obtain ⟨ln, e2, l⟩ := Q
    unfold finL at h ⊢
    simp only [] at h hd ⊢
    by_cases he2 : e2 = 0
    · rw [if_neg (fun hh => hh he2)] at h ⊢
      obtain ⟨d1, d2, d3, d4⟩ := hd he2
      have hsz : (encs l).length = (encs st.list).length := by
        have := d1 l.length
        rw [adr_all] at this
        rw [this, d2, adr_all]
      have hle : (encs l).length ≤ 4096 := by rw [hsz, ← h2.sz]; exact h2.le
      refine ⟨l, alD_all l 0 [] d3 (by simp; exact hle), hle, d3, fun x hx hj => ?_⟩
      obtain ⟨k, hkl, rfl⟩ := List.mem_iff_getElem.1 hx
      obtain ⟨⟨y, y1, y2⟩, f1, _⟩ := d4 k _ (List.getElem?_eq_getElem hkl)
      obtain ⟨s', n, g1, g2, g3⟩ := f1 (h1.jmp k y y1 (by rw [y2]; exact hj))
      obtain ⟨z, z1, z2⟩ := findLb_mem g1
      obtain ⟨m, m1, m2⟩ := h1.lab z z1
      refine ⟨m, ?_, ?_⟩
      · rw [d2]
        refine Nat.lt_of_le_of_ne m1 (fun e => g2 ?_)
        rw [← z2, m2, e, adr_all]
        exact h2.sz.symm
      · rw [g3, d1, ← m2, z2]
    · rw [if_pos he2] at h; exact absurd h he2
  · rw [if_pos he] at h; exact absurd h he
theorem alD_nil : ∀ (l : List Ix) (i : Nat) (acc : List UInt8), (alD l i acc).2.2 ≠ 0 → (alD l i acc).1 = []
  | [], i, acc, h => absurd rfl h
  | x :: t, i, acc, h => by
    rw [alD] at h ⊢
    split
    · rename_i e; rw [if_pos e] at h
      split
      · rename_i e2; rw [if_pos e2] at h; exact alD_nil t _ _ h
      · rfl
    · rfl
theorem parS_bad_nil {s : ByteArray} (h : (parS s).2.2 ≠ 0) : (parS s).1 = [] := by
  unfold parS at h ⊢
  split
  · rfl
  · rename_i e; rw [if_neg e] at h
    unfold finG at h ⊢
    split
    · rfl
    · rename_i e2; rw [if_neg e2] at h
      unfold finL at h ⊢
      split
      · rfl
      · rename_i e3; rw [if_neg e3] at h; exact alD_nil _ _ _ h
theorem nil_of_none {w : World} {l : List UInt8} (h : BAt w none l) : l = [] := by
  cases l with
  | nil => rfl
  | cons c t => obtain ⟨b, off, e, _⟩ := h 0 (by simp); cases e
/-- It may be printed; and that text is read as it. -/
theorem read_prints {s : ByteArray} (h : (parS s).2.2 = 0) : ∃ L, parS s = (L, 0, 0) ∧ L.length ≤ 4096 ∧ (prR L).2.2 = 0 ∧ ckJ (scR L).1 (scR L).1 = none ∧ (scR L).2.2 = 0 := by
  obtain ⟨l, h1, h2, h3, h4⟩ := read_shape h
  have hs := scR_encs h3 h2
  have hc : ckJ (plc l 0) (plc l 0) = none := ckJ_well _ _ (fun x hx hj => by
    obtain ⟨k, hk, rfl⟩ := List.mem_iff_getElem.1 hx
    have e := List.getElem?_eq_getElem hk
    rw [plc_get] at e
    cases hy : l[k]? with
    | none => rw [hy] at e; cases e
    | some y =>
      rw [hy] at e
      injection e with e
      rw [← e] at hj ⊢
      obtain ⟨m, m1, m2⟩ := h4 y (List.mem_of_getElem? hy) hj
      refine hasP_mem.2 ⟨⟨((0 + adr l m : Nat) : Int), (l[m]).op, (l[m]).a, (l[m]).b⟩, List.mem_of_getElem? (i := m) (by rw [plc_get, List.getElem?_eq_getElem m1]; rfl), ?_⟩
      show ((0 + adr l m : Nat) : Int) = y.a
      rw [m2]
      congr 1
      omega)
  refine ⟨encs l, h1, h2, ?_, by rw [hs]; exact hc, by rw [hs]⟩
  rw [prR_prX, hs]
  show (prX (plc l 0) _ 0).2.2 = 0
  rw [prX_good hc]
end Go.Proofs.YthdgbdjagjagpaaGreatDoor
