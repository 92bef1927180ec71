/-
  provisoref05.Place and provisoref05.Check.
-/
import Derived.Test.YtdpfinnclnapbaaDoorSc2
import Derived.Test.YtdpfinnclnapbaaDoorFl3
namespace Go.Proofs.YtdpfinnclnapbaaDoor
open Go.RowKit
set_option maxRecDepth 20000

/-- Some instruction lies at an address. -/
def hasP (l : List Ix) (a : Int) : Bool := l.any (fun y => decide (y.p = a))
/-- The first jump that leads to none. -/
def ckJ (l : List Ix) : List Ix → Option Int
  | [] => none
  | x :: t => if (jmpD x.op && !hasP l x.a) = true then some x.p else ckJ l t
/-- What Check tells. -/
def ckL (l : List Ix) : Int × Int := match ckJ l l with
  | some p => (p, 50)
  | none => match l.getLast? with
    | none => (0, 51)
    | some x => if endD x.op = true then (0, 0) else (x.p, 51)
def ckR (L : List UInt8) : Int × Int := if (scR L).2.2 = 0 then ckL (scR L).1 else (((scR L).2.1 : Int), (scR L).2.2)
theorem hasP_take {l : List Ix} {k : Nat} {x : Ix} (a : Int) (hx : l[k]? = some x) : hasP (l.take (k + 1)) a = (hasP (l.take k) a || decide (x.p = a)) := by
  rw [take_snoc hx]; unfold hasP; simp

set_option maxRecDepth 20000 in
set_option maxHeartbeats 4000000 in
theorem Place_any (ao : Option Addr) (c : Nat) (l : List Ix) (a : Int) (w : World) (hx : XsAt w ao l) (hz : l.length ≤ 4400000000000) :
    Calls Tryd.prog 43 #[.slice ao l.length c, .int .i64 a] w fun e w' => ∃ n : Int, e = .returned (.int .i64 n) ∧ decide (n < 0) = !hasP l a ∧ Below w.heap.size w w' := by
  have HX := hide hx
  clear hx
  go_enter Tryd.func43, Tryd.ntmps43
  go_wp2
  go_loopw [9] (fun i wr => ∃ k : Nat, k ≤ l.length ∧ i = .int .i64 (k : Int) ∧ Hid (hasP (l.take k) a = false) ∧ Hid (Below w.heap.size w wr)) (fun i _ => l.length - (intOf i).toNat)
  case atStart => exact ⟨0, by omega, rfl, hide rfl, hide (Below.refl _ _)⟩
  case round =>
    obtain ⟨k, hk, rfl, HN, HB⟩ := hrel
    by_cases hkl : k < l.length
    · have j1 : ((k : Nat) : Int) < ((l.length : Nat) : Int) := by omega
      have hx := List.getElem?_eq_getElem hkl
      generalize l[k] = x at hx
      obtain ⟨b, off, rfl, hc⟩ := ((unhide HX).below (unhide HB)) k x hx
      obtain ⟨c0, c1, c2, c3, ho⟩ := hc
      have hal : Below wr.heap.size wr (wr.alloc (.cells #[.int .i64 x.p, .int .u8 (x.op : Int), .int .i64 x.a, .int .i64 x.b] 31)) := (Below.refl _ _).alloc (Nat.le_refl _) _
      have I1 : Hid (IAt (wr.alloc (.cells #[.int .i64 x.p, .int .u8 (x.op : Int), .int .i64 x.a, .int .i64 x.b] 31)) wr.heap.size x.p x.op x.a x.b) := hide (heap_alloc_new wr _)
      have HB1 := hide ((unhide HB).trans (hal.mono (unhide HB).size))
      have HT := hide (hasP_take a hx)
      have HM : Hid (x ∈ l) := hide (List.mem_of_getElem? hx)
      clear hx hal
      go_upto_region 4 with fail
      generalize (wr.alloc (.cells #[.int .i64 x.p, .int .u8 (x.op : Int), .int .i64 x.a, .int .i64 x.b] 31)) = w1 at I1 HB1 ⊢
      generalize wr.heap.size = gi at I1 ⊢
      clear c0 c1 c2 c3 HB
      have d0 := (unhide I1).c0
      by_cases hp : x.p = a
      · have hq : (x.p == a) = true := by simpa using hp
        have HF : Hid (hasP l a = true) := hide (by unfold hasP; rw [List.any_eq_true]; exact ⟨x, unhide HM, by simpa using hp⟩)
        have HP := hide hp
        clear hp
        go_wp2
        go_ret
        exact ⟨_, rfl, by rw [unhide HF]; simp, unhide HB1⟩
      · have hq : (x.p == a) = false := by simpa using hp
        have HT2 : Hid (hasP (l.take (k + 1)) a = false) := hide (by rw [unhide HT, unhide HN]; simpa using hp)
        clear hp
        go_wp2
        go_roundw
        case rel => exact ⟨k + 1, by omega, by go_num, HT2, HB1⟩
        case measure => simp [intOf]; omega
    · obtain rfl : k = l.length := by omega
      rw [List.take_length] at HN
      go_wp2
      go_ret
      exact ⟨_, rfl, by rw [unhide HN]; simp, unhide HB⟩

theorem ckJ_drop {l r : List Ix} {k : Nat} {x : Ix} (hx : r[k]? = some x) : ckJ l (r.drop k) = if (jmpD x.op && !hasP l x.a) = true then some x.p else ckJ l (r.drop (k + 1)) := by
  obtain ⟨hk, rfl⟩ := List.getElem?_eq_some_iff.1 hx
  rw [List.drop_eq_getElem_cons hk]
  rfl
theorem sc_len (L : List UInt8) : ∀ f k, (scD L f k).1.length ≤ f := by
  intro f
  induction f with
  | zero => intro k; exact Nat.le_refl _
  | succ f ih =>
    intro k
    by_cases h : k < L.length
    · by_cases he : dE (L.drop k) = 0
      · rw [sc_good h he]; have := ih (k + sizeD (ixD k (L.drop k)).op); simp; omega
      · rw [sc_bad h he]; simp
    · rw [sc_end h]; simp
theorem scR_len (L : List UInt8) : (scR L).1.length ≤ 4097 := by
  unfold scR
  by_cases h : 4096 < L.length
  · rw [if_pos h]; simp
  · rw [if_neg h]
    have := sc_len L (L.length + 1) 0
    split
    · simp only []; omega
    · simp
theorem ck_bad {l : List Ix} {p e : Int} (he : e ≠ 0) : (if e = 0 then ckL l else (p, e)) = (p, e) := if_neg he
theorem ckL_jump {l : List Ix} {p : Int} (h : ckJ l l = some p) : ckL l = (p, 50) := by unfold ckL; rw [h]
theorem ckL_none {l : List Ix} (h : ckJ l l = none) (hl : l.length = 0) : ckL l = (0, 51) := by
  unfold ckL; rw [h]; cases l with
  | nil => rfl
  | cons x t => simp at hl
theorem ckL_last {l : List Ix} {x : Ix} (h : ckJ l l = none) (hx : l[l.length - 1]? = some x) : ckL l = if endD x.op = true then (0, 0) else (x.p, 51) := by
  unfold ckL; rw [h]; simp only []; rw [List.getLast?_eq_getElem?, hx]

end Go.Proofs.YtdpfinnclnapbaaDoor
