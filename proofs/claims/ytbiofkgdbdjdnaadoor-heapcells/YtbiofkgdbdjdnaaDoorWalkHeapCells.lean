/-
  The walk of the law HeapCells: it returns true for every life, and writes nothing that was there.
-/
import Derived.Test.YtbiofkgdbdjdnaaDoorHq13
namespace Go.Proofs.YtbiofkgdbdjdnaaDoor
open Go.RowKit
set_option maxRecDepth 20000

theorem cells_take {O : List Ob} {k : Nat} {o : Ob} (ho : O[k]? = some o) : cellsO (O.take (k + 1)) = cellsO (O.take k) + (1 + o.ps.length) := by
  rw [take_step ho]
  unfold cellsO
  simp
theorem cells_take_le (O : List Ob) (k : Nat) : cellsO (O.take k) ≤ cellsO O := by
  induction O generalizing k with
  | nil => simp
  | cons o O ih =>
    cases k with
    | zero => simp [cellsO]
    | succ k => have := ih k; unfold cellsO at this ⊢; simp only [List.take_succ_cons, List.map_cons, List.sum_cons]; omega
set_option maxRecDepth 20000 in
set_option maxHeartbeats 4000000 in
theorem walkHeapCells {w : World} (hW : WordsAt w) (ao : Option Addr) (cap : Nat) (T : List Cl) (room : Int) (xo : Option Addr) (xc : Nat) (X : List Ac) (hT : TabAt w ao T) (hcap : T.length ≤ cap) (hz : T.length * 48 ≤ 140737488351232) (hX : AcsAt w xo X) (hXl : X.length * 56 ≤ 140737488351232) :
    Calls Tryd.prog 4 #[.agg #[.slice ao T.length cap, .int .i64 room, .slice xo X.length xc]] w fun e w' => e = .returned (.bool true) ∧ Below w.heap.size w w' := by
  have hal : Below w.heap.size w (w.alloc (.cells #[.slice ao T.length cap, .int .i64 room, .slice xo X.length xc] 25)) := (Below.refl _ _).alloc (Nat.le_refl _) _
  have HBX : Hid (Bx (w.alloc (.cells #[.slice ao T.length cap, .int .i64 room, .slice xo X.length xc] 25)) w.heap.size 25 #[.slice ao T.length cap, .int .i64 room, .slice xo X.length xc]) := hide (heap_alloc_new w _)
  have HB := hide hal
  have HA := hide (awake_any _ (hW.below hal))
  have HT := hide hT
  have HX := hide hX
  have HW := hide hW
  have HZ := hide (And.intro hcap (And.intro hz hXl))
  clear hal hT hX hW hz hcap hXl
  go_enter Tryd.func4, Tryd.ntmps4
  go_upto_region 1 with fail
  generalize w.alloc (.cells #[.slice ao T.length cap, .int .i64 room, .slice xo X.length xc] 25) = W1 at HBX HB HA ⊢
  go_wp2_with fail
  refine (unhide HA).mono ?_
  rintro e W2 ⟨rfl, hb2⟩
  have HB2 := hide ((unhide HB).trans (hb2.mono (unhide HB).size))
  have HBX2 := hide ((unhide HBX).below hb2)
  clear hb2 HA HB HBX
  have HL := hide (lived_any ao cap T room xo xc X W2 ((unhide HT).below (unhide HB2)) (unhide HZ).1 ((unhide HW).below (unhide HB2)) (unhide HZ).2.1 ((unhide HX).below (unhide HB2)) (unhide HZ).2.2)
  have k0 := (unhide HBX2).c 0 rfl
  have k1 := (unhide HBX2).c 1 rfl
  have k2 := (unhide HBX2).c 2 rfl
  go_wp2_with fail
  refine (unhide HL).mono ?_
  rintro e W3 ⟨hI, hb3⟩
  have HB3 := hide ((unhide HB2).trans (hb3.mono (unhide HB2).size))
  have HBX3 := hide ((unhide HBX2).below hb3)
  clear hb3 HL k0 k1 k2 HBX2
  rcases hI with rfl | ⟨_, hr1, _, g, h, rfl, hH, hLv⟩
  · go_wp2
    go_ret
    exact ⟨rfl, unhide HB3⟩
  · have HH := hide hH
    have HLV := hide hLv
    have hlen := hLv.ok.len
    have HLi := hide (Live_any W2.heap.size g h W3 hH hlen)
    clear hH hLv
    go_wp2_with fail
    refine (unhide HLi).mono ?_
    rintro e W4 ⟨v, rfl, hO, hb4⟩
    obtain ⟨va, vc, rfl, hjs, _⟩ := hO.at
    have HJ := hide hjs
    have HH4 := hide ((unhide HH).below hb4)
    have HB4 := hide ((unhide HB3).trans (hb4.mono (unhide HB3).size))
    have HBX4 := hide ((unhide HBX3).below hb4)
    rw [List.length_map]
    clear hO hb4 HLi hjs HH HB3 HBX3
    go_wp2_with fail
    go_loopw [4, 18] (fun s4 i wr => ∃ (k : Nat) (n : Nat), k ≤ h.O.length ∧ i = .int .i64 (k : Int) ∧ s4 = .int .i64 (n : Int) ∧ n ≤ 4096 ∧ Hid (n = cellsO (h.O.take k)) ∧ Hid (Below W4.heap.size W4 wr)) (fun _ i _ => h.O.length - (intOf i).toNat)
    case atStart => exact ⟨0, 0, by omega, rfl, rfl, by omega, hide (by simp [cellsO]), hide (Below.refl _ _)⟩
    case round =>
      obtain ⟨k, n, hk, rfl, rfl, hn, HN, HBw⟩ := hrel
      by_cases hlt : k < h.O.length
      · have i1 : ((k : Nat) : Int) < ((h.O.length : Nat) : Int) := by omega
        have hx := List.getElem?_eq_getElem hlt
        generalize h.O[k] = o at hx
        obtain ⟨b, off, rfl, hc⟩ := (unhide HJ).below (unhide HBw) k o.ref (by rw [List.getElem?_map, hx]; rfl)
        have HX2 := hide hx
        have HLn := hide (Len_any W2.heap.size g h o.ref wr ((unhide HH4).below (unhide HBw)) (unhide HLV).ok)
        clear hx
        go_wp2_with fail
        refine (unhide HLn).mono ?_
        rintro e W5 ⟨⟨r, c, a, m, cp, er, rfl, hI⟩, hb5⟩
        have HBw2 := hide ((unhide HBw).trans (hb5.mono (unhide HBw).size))
        have hoo := obj_at (unhide HLV).ok.asc (unhide HX2)
        rcases hI with ⟨rfl, o', ho', _, _, _, _, _, rfl, _⟩ | ⟨hno, _⟩
        · rw [hoo] at ho'
          injection ho' with ho'
          subst ho'
          have HN2 : Hid (n + (1 + o.ps.length) = cellsO (h.O.take (k + 1))) := hide (by rw [cells_take (unhide HX2), ← unhide HN])
          have hn2 : n + (1 + o.ps.length) ≤ 4096 := by
            rw [unhide HN2]
            have h1 := cells_take_le h.O (k + 1)
            have h2 := (unhide HLV).ok.used
            have h3 := (unhide HLV).ok.fits
            have h4 := (unhide HLV).ok.room.2
            omega
          clear hoo hb5 HLn hc
          go_wp2
          go_roundw
          case rel => exact ⟨k + 1, n + (1 + o.ps.length), by omega, by go_num, by go_num, hn2, HN2, HBw2⟩
          case measure => simp [intOf]; omega
        · rw [hoo] at hno
          cases hno
      · have i1 : ¬ ((k : Nat) : Int) < ((h.O.length : Nat) : Int) := by omega
        have HU := hide (Used_any W2.heap.size g h wr ((unhide HH4).below (unhide HBw)))
        have HE : Hid (h.used = ((n : Nat) : Int) ∧ ((n : Nat) : Int) ≤ room) := hide (by
          have h1 := (unhide HLV).ok.used
          have h2 := unhide HN
          have h3 := (unhide HLV).ok.fits
          have h4 := (unhide HLV).room
          rw [List.take_of_length_le (by omega)] at h2
          omega)
        rw [(unhide HE).1] at HU
        have t1 : (((n : Nat) : Int) == ((n : Nat) : Int)) = true := by simp
        have t2 := (unhide HE).2
        have HB5 := hide ((unhide HB4).trans ((unhide HBw).mono (unhide HB4).size))
        have c1 := ((unhide HBX4).below (unhide HBw)).c 1 rfl
        go_wp2_with (go_at_call 19; refine (unhide HU).mono ?_; rintro e W7 ⟨rfl, hw⟩; rw [hw]; clear hw W7)
        go_wp2
        go_ret
        exact ⟨rfl, unhide HB5⟩
end Go.Proofs.YtbiofkgdbdjdnaaDoor
