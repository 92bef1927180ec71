/-
  provisoref05.Place, told exactly.
-/
import Derived.Test.YtdpfinnclnapbaaDoorQu
namespace Go.Proofs.YtdpfinnclnapbaaDoor
open Go.RowKit Go.Maps
set_option maxRecDepth 20000

def plD (l : List Ix) (a : Int) : Int := match pI l a with | some i => (i : Int) | none => -1
theorem pI_no {l : List Ix} {a : Int} (h : hasP l a = false) : pI l a = none := by
  rw [pI_has] at h
  cases hp : pI l a with
  | none => rfl
  | some i => rw [hp] at h; cases h
theorem pI_at {l : List Ix} {a : Int} {k : Nat} {x : Ix} (h : hasP (l.take k) a = false) (hx : l[k]? = some x) (hp : x.p = a) : pI l a = some k := by
  obtain ⟨hk, rfl⟩ := List.getElem?_eq_some_iff.1 hx
  refine List.findIdx?_eq_some_iff_getElem.2 ⟨hk, by simpa using hp, fun j hj => ?_⟩
  have hj' : j < l.length := by omega
  intro e
  have hm : l[j]'hj' ∈ l.take k := List.mem_take_iff_getElem.2 ⟨j, by omega, rfl⟩
  have : hasP (l.take k) a = true := by unfold hasP; rw [List.any_eq_true]; exact ⟨_, hm, e⟩
  rw [this] at h
  cases h

set_option maxRecDepth 20000 in
set_option maxHeartbeats 4000000 in
theorem Place2_any (ao : Option Addr) (c : Nat) (l : List Ix) (a : Int) (w : World) (hx : XsAt w ao l) (hz : l.length ≤ 4400000000000) :
    Calls Tryd.prog 43 #[.slice ao l.length c, .int .i64 a] w fun e w' => e = .returned (.int .i64 (plD l a)) ∧ Below w.heap.size w w' := by
  have HX := hide hx
  clear hx
  go_enter Tryd.func43, Tryd.ntmps43
  go_wp2
  go_loopw [9] (fun i wr => ∃ k : Nat, k ≤ l.length ∧ i = .int .i64 (k : Int) ∧ Hid (hasP (l.take k) a = false) ∧ Hid (Below w.heap.size w wr)) (fun i _ => l.length - (intOf i).toNat)
  case atStart => exact ⟨0, by omega, rfl, hide rfl, hide (Below.refl _ _)⟩
  case round =>
    obtain ⟨k, hk, rfl, HN, HB⟩ := hrel
    by_cases hkl : k < l.length
    · have j1 : ((k : Nat) : Int) < ((l.length : Nat) : Int) := by omega
      have hx := List.getElem?_eq_getElem hkl
      generalize l[k] = x at hx
      obtain ⟨b, off, rfl, hc⟩ := ((unhide HX).below (unhide HB)) k x hx
      obtain ⟨c0, c1, c2, c3, ho⟩ := hc
      have hal : Below wr.heap.size wr (wr.alloc (.cells #[.int .i64 x.p, .int .u8 (x.op : Int), .int .i64 x.a, .int .i64 x.b] 31)) := (Below.refl _ _).alloc (Nat.le_refl _) _
      have I1 : Hid (IAt (wr.alloc (.cells #[.int .i64 x.p, .int .u8 (x.op : Int), .int .i64 x.a, .int .i64 x.b] 31)) wr.heap.size x.p x.op x.a x.b) := hide (heap_alloc_new wr _)
      have HB1 := hide ((unhide HB).trans (hal.mono (unhide HB).size))
      have HT := hide (hasP_take a hx)
      have HM : Hid (l[k]? = some x) := hide hx
      clear hx hal
      go_upto_region 4 with fail
      generalize (wr.alloc (.cells #[.int .i64 x.p, .int .u8 (x.op : Int), .int .i64 x.a, .int .i64 x.b] 31)) = w1 at I1 HB1 ⊢
      generalize wr.heap.size = gi at I1 ⊢
      clear c0 c1 c2 c3 HB
      have d0 := (unhide I1).c0
      by_cases hp : x.p = a
      · have hq : (x.p == a) = true := by simpa using hp
        have HF : Hid (plD l a = (k : Int)) := hide (by unfold plD; rw [pI_at (unhide HN) (unhide HM) hp])
        have HP := hide hp
        clear hp
        go_wp2
        go_ret
        exact ⟨by rw [unhide HF]; rfl, unhide HB1⟩
      · have hq : (x.p == a) = false := by simpa using hp
        have HT2 : Hid (hasP (l.take (k + 1)) a = false) := hide (by rw [unhide HT, unhide HN]; simpa using hp)
        clear hp
        go_wp2
        go_roundw
        case rel => exact ⟨k + 1, by omega, by go_num, HT2, HB1⟩
        case measure => simp [intOf]; omega
    · obtain rfl : k = l.length := by omega
      rw [List.take_length] at HN
      go_wp2
      go_ret
      exact ⟨by rw [show plD l a = -1 by unfold plD; rw [pI_no (unhide HN)]]; rfl, unhide HB⟩

end Go.Proofs.YtdpfinnclnapbaaDoor
