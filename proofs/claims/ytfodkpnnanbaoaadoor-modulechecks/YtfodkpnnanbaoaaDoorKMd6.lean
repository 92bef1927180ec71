/-
  module.sameClass, sameFunc, Same, bytes.Equal, slices.EqualFunc over them: whether both hold the same; module.Entry and provisoref16.Entry: the first function of a name. Conditions: lengths fit.
-/
import Derived.Test.YtfodkpnnanbaoaaDoorKMd5
import Derived.Laws.IdiomStrings
namespace Go.Proofs.YtfodkpnnanbaoaaDoor
open Go.RowKit
set_option maxRecDepth 20000

theorem conv_bytes {w : World} {ao : Option Addr} {l : List UInt8} (h : BAt w ao l) (hn : ao = none → l = []) (c : Nat) : (convert 43 9 (.slice ao l.length c)).run Tryd.prog w = .ok (.string ⟨l.toArray⟩) w := by
  cases ao with
  | some x =>
    refine run_convert_bytes_back w 43 9 5 x c l Tryd.underlying43 Tryd.underlying5 Tryd.underlying9 (fun j hj => ?_)
    obtain ⟨b, off, e, hc⟩ := h j hj
    injection e with e
    subst e
    rw [Addr.add_lit, hc]
    unfold at8
    rw [List.getD_eq_getElem?_getD, List.getElem?_eq_getElem hj]
    rfl
  | none =>
    have := hn rfl
    subst this
    show (convert 43 9 (.slice none 0 c)).run Tryd.prog w = _
    rw [run_convert_bytes_string w 43 9 5 none 0 c Tryd.underlying43 Tryd.underlying5 Tryd.underlying9]
    rfl
/-- The first function of a name, from k on. -/
def entR : List Fn → ByteArray → Nat → Option Nat
  | [], _, _ => none
  | f :: l, s, k => if (f.nm.toList == s.toList) = true then some k else entR l s (k + 1)
def entN (L : List Fn) (s : ByteArray) : Nat := (entR L s 0).getD 0
def entB (L : List Fn) (s : ByteArray) : Bool := (entR L s 0).isSome
theorem entR_drop {L : List Fn} {s : ByteArray} {k : Nat} {x : Fn} (h : L[k]? = some x) : entR (L.drop k) s k = if (x.nm.toList == s.toList) = true then some k else entR (L.drop (k + 1)) s (k + 1) := by
  obtain ⟨hk, e⟩ := List.getElem?_eq_some_iff.1 h
  rw [List.drop_eq_getElem_cons hk, entR, e]

set_option maxRecDepth 20000 in
set_option maxHeartbeats 4000000 in
theorem Entry_any (m : Md) (s : ByteArray) (w : World) (h : FnsAt w m.fo m.F) (hz : m.F.length * 80 ≤ 140737488351232) :
    Calls Tryd.prog 41 #[.agg #[.string m.nm, .slice m.ao m.T.length m.cap, .slice m.fo m.F.length m.fc, .slice m.co m.C.length m.cc], .string s] w fun e w' => e = .returned (.tuple #[.int .i64 (entN m.F s : Int), .bool (entB m.F s)]) ∧ Below w.heap.size w w' := by
  have al := (Below.refl w.heap.size w).alloc (Nat.le_refl _) (.cells #[.string m.nm, .slice m.ao m.T.length m.cap, .slice m.fo m.F.length m.fc, .slice m.co m.C.length m.cc] 26)
  have HB := hide al
  have HC : Hid (Bx (w.alloc (.cells #[.string m.nm, .slice m.ao m.T.length m.cap, .slice m.fo m.F.length m.fc, .slice m.co m.C.length m.cc] 26)) w.heap.size 26 #[.string m.nm, .slice m.ao m.T.length m.cap, .slice m.fo m.F.length m.fc, .slice m.co m.C.length m.cc]) := hide (heap_alloc_new w _)
  have H := hide (h.below al)
  have hl : m.F.length < 9223372036854775000 := by omega
  clear al h hz
  go_enter Tryd.func41, Tryd.ntmps41
  go_upto_region 1 with fail
  generalize (w.alloc (.cells #[.string m.nm, .slice m.ao m.T.length m.cap, .slice m.fo m.F.length m.fc, .slice m.co m.C.length m.cc] 26)) = W1 at HB HC H ⊢
  have k0 := (unhide HC).c 2 rfl
  go_wp2_with fail
  go_loopw [11] (fun i wr => ∃ k : Nat, k ≤ m.F.length ∧ i = .int .i64 (k : Int) ∧ Hid (entR m.F s 0 = entR (m.F.drop k) s k) ∧ Hid (Below W1.heap.size W1 wr)) (fun i _ => m.F.length - (intOf i).toNat)
  case atStart => exact ⟨0, by omega, rfl, hide rfl, hide (Below.refl _ _)⟩
  case round =>
    obtain ⟨k, hk, rfl, HK, HR⟩ := hrel
    have q0 := ((unhide HC).below (unhide HR)).c 2 rfl
    have HBW := hide ((unhide HB).trans ((unhide HR).mono (unhide HB).size))
    by_cases hlt : k < m.F.length
    · have i1 : ((k : Nat) : Int) < ((m.F.length : Nat) : Int) := by omega
      have i0 : (0 : Int) ≤ ((k : Nat) : Int) := by omega
      have hx := List.getElem?_eq_getElem hlt
      obtain ⟨b, off, eb, hxa⟩ := (unhide H).below (unhide HR) k _ hx
      generalize m.F[k] = x at hxa hx
      have HD := hide (entR_drop (s := s) hx)
      have c0 := hxa.c0
      have c1 := hxa.c1
      have c2 := hxa.c2
      have c3 := hxa.c3
      have c4 := hxa.c4
      rw [eb] at q0
      rw [eb]
      have hal : Below wr.heap.size wr (wr.alloc (.cells #[.string x.nm, .slice x.sg.po x.sg.ps.length x.sg.pc, .int .u8 (x.sg.rt : Int), .int .i64 x.lo, .slice x.ca x.cd.length x.cc] 45)) := (Below.refl _ _).alloc (Nat.le_refl _) _
      have HAL := hide hal
      clear hx hxa eb hal
      cases hn : (x.nm.toList == s.toList)
      · have HK2 : Hid (entR m.F s 0 = entR (m.F.drop (k + 1)) s (k + 1)) := hide (by rw [unhide HK, unhide HD, hn]; rfl)
        have HR2 : Hid (Below W1.heap.size W1 (wr.alloc (.cells #[.string x.nm, .slice x.sg.po x.sg.ps.length x.sg.pc, .int .u8 (x.sg.rt : Int), .int .i64 x.lo, .slice x.ca x.cd.length x.cc] 45))) := hide ((unhide HR).trans ((unhide HAL).mono (unhide HR).size))
        go_wp2
        go_roundw
        case rel => exact ⟨k + 1, by omega, by go_num, HK2, HR2⟩
        case measure => simp [intOf]; omega
      · have HE : Hid (entR m.F s 0 = some k) := hide (by rw [unhide HK, unhide HD, hn]; rfl)
        have HR2 : Hid (Below w.heap.size w (wr.alloc (.cells #[.string x.nm, .slice x.sg.po x.sg.ps.length x.sg.pc, .int .u8 (x.sg.rt : Int), .int .i64 x.lo, .slice x.ca x.cd.length x.cc] 45))) := hide ((unhide HBW).trans ((unhide HAL).mono (unhide HBW).size))
        have HF : Hid ((.tuple #[.int .i64 (k : Int), .bool true] : Value) = .tuple #[.int .i64 (entN m.F s : Int), .bool (entB m.F s)]) := hide (by unfold entN entB; rw [unhide HE]; rfl)
        go_wp2
        go_ret2
        exact ⟨congrArg Ending.returned (unhide HF), unhide HR2⟩
    · have i1 : ¬ ((k : Nat) : Int) < ((m.F.length : Nat) : Int) := by omega
      have HE : Hid (entR m.F s 0 = none) := hide (by rw [unhide HK, List.drop_eq_nil_of_le (by omega)]; rfl)
      have HF : Hid ((.tuple #[.int .i64 0, .bool false] : Value) = .tuple #[.int .i64 (entN m.F s : Int), .bool (entB m.F s)]) := hide (by unfold entN entB; rw [unhide HE]; rfl)
      go_wp2
      go_ret2
      exact ⟨congrArg Ending.returned (unhide HF), unhide HBW⟩

end Go.Proofs.YtfodkpnnanbaoaaDoor
