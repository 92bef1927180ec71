/-
  The walk of the law WireWrites: it returns true for every script, and writes nothing that was there.
-/
import Derived.Test.YtggaecmjadkopaaPutB
import Derived.Test.YtggaecmjadkopaaRdPut
namespace Go.Proofs.Ytggaecmjadkopaa
open Go.RowKit

set_option maxHeartbeats 1000000 in
theorem walkWireWrites {W0 : World} (ao : Option Addr) (cap : Nat) (L : List PutD) (h : PutsAt W0 ao L) (hfit : L.length * 64 ≤ 140737488351232) :
    Calls Try.prog 4 #[.slice ao L.length cap] W0 fun e w' => e = .returned (.bool true) ∧ Below W0.heap.size W0 w' := by
  go_enter Try.func4, Try.ntmps4
  go_wp2_with fail
  refine (New_any _).mono ?_
  rintro e w1 ⟨rfl, hW, hB⟩
  have hI : Inv W0 w1 W0.heap.size (.slice none 0 0) (.slice none 0 0) [] := ⟨hW, World.ownsRow_nil _ _ _ _, Nat.le_refl _, (fun k e => by cases e), (fun k e => by cases e), (by simp [Value.ownBlock]), (fun k e => by cases e), hB⟩
  clear hW hB
  go_wp2
  go_loopw [4, 14] (fun b i wr => ∃ (k : Nat) (v : Value) (l : List UInt8), k ≤ L.length ∧ i = .int .i64 k ∧ Inv W0 wr W0.heap.size v b l) (fun _ i _ => L.length - (intOf i).toNat)
  case atStart => exact ⟨0, _, [], by omega, rfl, hI⟩
  case round =>
    obtain ⟨k, v, l, hk, rfl, hI⟩ := hrel
    by_cases hlt : k < L.length
    · obtain ⟨b, off, rfl, hp⟩ := h k _ (List.getElem?_eq_getElem hlt)
      have hpw := hp.below hI.bel
      generalize L[k] = x at hp hpw
      have c0 := hpw.c0
      have c1 := hpw.c1
      have c2 := hpw.c2
      have c3 := hpw.c3
      have c4 := hpw.c4
      have i1 : (k : Int) < (L.length : Int) := by omega
      have hI1 := fun X => hI.below ((Below.refl _ wr).alloc (Nat.le_refl _) X)
      have HI := hide hI1
      clear hI1
      go_wp2_with fail
      refine (put_any (unhide HI _) x.op x.n x.at_ x.nm x.so x.sc x.bs hp.bytes hp.nil hp.fit hp.name).mono ?_
      rintro e w2 ⟨v2, b2, l2, rfl, hI2⟩
      clear c0 c1 c2 c3 c4 hpw hI
      go_wp2
      go_roundw
      case rel => exact ⟨k + 1, v2, l2, by omega, by go_num, hI2⟩
      case measure => simp [intOf]; omega
    · obtain ⟨bo, bc, hb, hbat⟩ := hI.ob.at
      have hlen := hI.wr.len
      subst hb
      go_wp2_with fail
      refine (Len_any hI.wr).mono ?_
      rintro e w2 ⟨rfl, rfl⟩
      go_wp2_with fail
      refine (Bytes_any hI.wr).mono ?_
      rintro e w3 ⟨rfl, hO3, hB3⟩
      have hI3 := hI.below hB3
      obtain ⟨ao3, cap3, hx, hb3⟩ := hO3.at
      injection hx with hx1 hx2 hx3
      subst hx1
      clear hx2 hx3
      go_wp2_with fail
      refine (Equal_any (some ⟨w2.heap.size, 0, none⟩) bo l.length bc l l w3 hb3 (hbat.below' hB3) (by unfold maxLen; omega) (by unfold maxLen; omega)).mono ?_
      rintro e w4 ⟨rfl, j, rfl⟩
      rw [show (l == l) = true from by simp]
      have hB4 := belowD hI3.bel j
      go_wp2
      go_ret
      exact ⟨rfl, hB4⟩
end Go.Proofs.Ytggaecmjadkopaa
