/-
  The bytes of instructions, one behind another, plainly; the contracts of code.All and provisoref04.All. Conditions: the widths lie there, lengths fit.
-/
import Derived.Test.YthdgbdjagjagpaaGreatDoorAl1
import Derived.Test.YthdgbdjagjagpaaGreatDoorIn3
import Derived.Test.YthdgbdjagjagpaaGreatDoorApp
namespace Go.Proofs.YthdgbdjagjagpaaGreatDoor
open Go.RowKit
set_option maxRecDepth 20000

/-- What All answers: from the place i on, with these bytes laid. -/
def alD : List Ix → Nat → List UInt8 → List UInt8 × Nat × Int
  | [], _, acc => (acc, 0, 0)
  | x :: t, i, acc => if eE x.op x.a x.b = 0 then (if acc.length + (eL x.op x.a x.b).length ≤ 4096 then alD t (i + 1) (acc ++ eL x.op x.a x.b) else ([], i, 4)) else ([], i, eE x.op x.a x.b)
theorem alD_step (l : List Ix) (k : Nat) (x : Ix) (acc : List UInt8) (h : l[k]? = some x) (h0 : eE x.op x.a x.b = 0) (h1 : acc.length + (eL x.op x.a x.b).length ≤ 4096) : alD (l.drop k) k acc = alD (l.drop (k + 1)) (k + 1) (acc ++ eL x.op x.a x.b) := by
  have hk := (List.getElem?_eq_some_iff.1 h).1
  have e : l[k] = x := by rw [List.getElem?_eq_getElem hk] at h; injection h
  rw [List.drop_eq_getElem_cons hk, e, alD, if_pos h0, if_pos h1]
theorem alD_bad (l : List Ix) (k : Nat) (x : Ix) (acc : List UInt8) (h : l[k]? = some x) (h0 : ¬ eE x.op x.a x.b = 0) : alD (l.drop k) k acc = ([], k, eE x.op x.a x.b) := by
  have hk := (List.getElem?_eq_some_iff.1 h).1
  have e : l[k] = x := by rw [List.getElem?_eq_getElem hk] at h; injection h
  rw [List.drop_eq_getElem_cons hk, e, alD, if_neg h0]
theorem alD_long (l : List Ix) (k : Nat) (x : Ix) (acc : List UInt8) (h : l[k]? = some x) (h0 : eE x.op x.a x.b = 0) (h1 : ¬ acc.length + (eL x.op x.a x.b).length ≤ 4096) : alD (l.drop k) k acc = ([], k, 4) := by
  have hk := (List.getElem?_eq_some_iff.1 h).1
  have e : l[k] = x := by rw [List.getElem?_eq_getElem hk] at h; injection h
  rw [List.drop_eq_getElem_cons hk, e, alD, if_pos h0, if_neg h1]
theorem alD_end (l : List Ix) (k : Nat) (acc : List UInt8) (h : l.length ≤ k) : alD (l.drop k) k acc = (acc, 0, 0) := by
  rw [List.drop_eq_nil_of_le h, alD]
theorem eL_len' (op : Nat) (a b : Int) : (eL op a b).length ≤ 6 := by
  unfold eL
  by_cases h0 : eE op a b = 0
  · rw [if_pos h0, encL_length]
    have h : op < 34 := by
      refine Decidable.byContradiction fun h => ?_
      unfold eE at h0
      rw [if_neg h] at h0
      omega
    have := wA_le op h
    have := wB_le op h
    omega
  · rw [if_neg h0]; simp

set_option maxHeartbeats 2000000 in
theorem All_any (ao : Option Addr) (c : Nat) (l : List Ix) (w : World) (hl : XsAt w ao l) (hW : WidAt w) (hz : l.length ≤ 140737488355328) :
    Calls Tryz.prog 20 #[.slice ao l.length c] w fun e w' => ∃ v, e = .returned (.tuple #[v, .int .i64 ((alD l 0 []).2.1 : Int), .int .i64 (alD l 0 []).2.2]) ∧ OwnB w' w.heap.size v (alD l 0 []).1 ∧ Below w.heap.size w w' := by
  have HL := hide hl
  have HW := hide hW
  clear hl hW
  go_enter Tryz.func20, Tryz.ntmps20
  go_wp2
  go_loopw [5, 12] (fun v i wr => ∃ (k : Nat) (acc : List UInt8), k ≤ l.length ∧ i = .int .i64 k ∧ acc.length ≤ 4096 ∧ Hid (alD (l.drop k) k acc = alD l 0 []) ∧ Hid (OwnB wr w.heap.size v acc) ∧ Hid (Below w.heap.size w wr)) (fun _ i _ => l.length - (intOf i).toNat)
  case atStart => exact ⟨0, [], by omega, rfl, by simp, hide rfl, hide (World.ownsRow_nil _ _ _ _), hide (Below.refl _ _)⟩
  case round =>
    obtain ⟨k, acc, hk, rfl, ha, HA, HO, HB⟩ := hrel
    by_cases hlt : k < l.length
    · have hx := List.getElem?_eq_getElem hlt
      generalize l[k] = x at hx
      have HX := hide hx
      obtain ⟨b, off, rfl, hc⟩ := ((unhide HL).below (unhide HB)) k x hx
      obtain ⟨c0, c1, c2, c3, ho⟩ := hc
      have i1 : ((k : Nat) : Int) < ((l.length : Nat) : Int) := by omega
      clear hx
      have HN := hide (eL_len' x.op x.a x.b)
      have HWr := hide ((unhide HW).below ((unhide HB).mono (Nat.le_of_eq rfl)))
      have hal : Below wr.heap.size wr (wr.alloc (.cells #[.int .i64 x.p, .int .u8 (x.op : Int), .int .i64 x.a, .int .i64 x.b] 72)) := (Below.refl _ _).alloc (Nat.le_refl _) _
      have HW1 := hide ((unhide HWr).below hal)
      have HAl := hide hal
      clear hal
      go_wp2_with fail
      generalize (wr.alloc (.cells #[.int .i64 x.p, .int .u8 (x.op : Int), .int .i64 x.a, .int .i64 x.b] 72)) = w1 at HW1 HAl ⊢
      with_reducible refine (Encode_any x.p x.op x.a x.b _ (unhide HW1) ho).mono ?_
      rintro e w2 ⟨v1, rfl, hO1, hB2⟩
      have HB2 : Hid (Below w.heap.size w w2) := hide (((unhide HB).trans ((unhide HAl).mono (unhide HB).size)).trans (hB2.mono (Nat.le_trans (unhide HB).size (unhide HAl).size)))
      have HO2 : Hid (OwnB w2 w.heap.size u5 acc) := hide (((unhide HO).below (unhide HAl)).below hB2)
      have HO1 := hide hO1
      clear hO1 hB2 HO HB c0 c1 c2 c3 HWr HW1 HAl
      generalize her : eE x.op x.a x.b = er
      by_cases h0 : er = 0
      rotate_left
      · have hE : alD l 0 [] = ([], k, er) := by rw [← unhide HA, alD_bad l k x acc (unhide HX) (by rw [her]; exact h0), her]
        have HE := hide hE
        have b1 : (er != 0) = true := bne_t h0
        clear hE her h0
        go_wp2
        go_ret3
        rw [unhide HE]
        exact ⟨_, rfl, World.ownsRow_nil _ _ _ _, unhide HB2⟩
      subst h0
      have hfit := unhide HN
      obtain ⟨a1, p1, rfl, _⟩ := (unhide HO2).at
      obtain ⟨a2, p2, rfl, _⟩ := (unhide HO1).at
      by_cases hlong : acc.length + (eL x.op x.a x.b).length ≤ 4096
      rotate_left
      · have hE : alD l 0 [] = ([], k, 4) := by rw [← unhide HA, alD_long l k x acc (unhide HX) her hlong]
        have HE := hide hE
        have b1 : decide ((4096 : Int) < (acc.length : Int) + ((eL x.op x.a x.b).length : Int)) = true := decide_eq_true (by omega)
        clear hE her hlong
        go_wp2
        go_ret3
        rw [unhide HE]
        exact ⟨_, rfl, World.ownsRow_nil _ _ _ _, unhide HB2⟩
      have HE : Hid (alD (l.drop (k + 1)) (k + 1) (acc ++ eL x.op x.a x.b) = alD l 0 []) := hide (by rw [← unhide HA, alD_step l k x acc (unhide HX) her hlong])
      have b1 : decide ((4096 : Int) < (acc.length : Int) + ((eL x.op x.a x.b).length : Int)) = false := decide_eq_false (by omega)
      have hlen : (acc ++ eL x.op x.a x.b).length ≤ 4096 := by simp; omega
      have HS := hide (unhide HO1).src
      have hbase := (unhide HB2).size
      generalize eL x.op x.a x.b = m at b1 hlen HE HS hfit HO1 ⊢
      clear her hlong HA HX HN HO1
      go_wp2_with (at_builtin; refine wpList_appendB rfl _ _ rfl w.heap.size _ acc rfl (unhide HO2) _ m rfl (unhide HS) (by omega) hbase ?_)
      intro v3 w3 hO3 hG3 _ _
      have HO3 := hide hO3
      have HB3 : Hid (Below w.heap.size w w3) := hide ((unhide HB2).trans (below_grown hG3 hbase (fun q e => ((unhide HO2).lt q e).1)))
      clear hO3 hG3 HO2 HB2 HS
      go_wp2
      go_roundw
      case rel => exact ⟨k + 1, acc ++ m, by omega, by go_num, hlen, HE, HO3, HB3⟩
      case measure => simp [intOf]; omega
    · have hE : alD l 0 [] = (acc, 0, 0) := by rw [← unhide HA, alD_end l k acc (by omega)]
      have HE := hide hE
      clear hE
      go_wp2
      go_ret3
      rw [unhide HE]
      exact ⟨_, rfl, unhide HO, unhide HB⟩

end Go.Proofs.YthdgbdjagjagpaaGreatDoor
