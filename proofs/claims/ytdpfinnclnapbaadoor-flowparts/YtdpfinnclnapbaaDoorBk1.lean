/-
  flow.rises and parts: what the plain functions say.
-/
import Derived.Test.YtdpfinnclnapbaaDoorRc2
namespace Go.Proofs.YtdpfinnclnapbaaDoor
open Go.RowKit
set_option maxRecDepth 20000

/-- Each instruction stands behind the one ahead of it. -/
def rsP (l : List Ix) : Prop := ∀ (i : Nat) (x y : Ix), l[i]? = some x → l[i + 1]? = some y → x.p < y.p
/-- So it is up to an instruction. -/
def rsK (l : List Ix) (k : Nat) : Prop := ∀ (i : Nat) (x y : Ix), i + 1 < k → l[i]? = some x → l[i + 1]? = some y → x.p < y.p
def rsB : List Ix → Bool
  | [] => true
  | [_] => true
  | x :: y :: l => decide (x.p < y.p) && rsB (y :: l)
theorem rsB_iff : ∀ l, rsB l = true ↔ rsP l
  | [] => ⟨fun _ i x y hx => by simp at hx, fun _ => rfl⟩
  | [a] => ⟨fun _ i x y hx hy => by simp at hy, fun _ => rfl⟩
  | a :: b :: l => by
    unfold rsB
    rw [Bool.and_eq_true, decide_eq_true_eq, rsB_iff (b :: l)]
    constructor
    · rintro ⟨h1, h2⟩ i x y hx hy
      cases i with
      | zero => simp at hx hy; subst hx hy; exact h1
      | succ i => exact h2 i x y (by simpa using hx) (by simpa using hy)
    · intro h
      exact ⟨h 0 a b rfl rfl, fun i x y hx hy => h (i + 1) x y (by simpa using hx) (by simpa using hy)⟩
def prtD (op : Nat) : Bool := jmpD op || endD op

set_option maxHeartbeats 1000000 in
theorem parts_any (op : Nat) (w : World) : Calls Tryd.prog 49 #[.int .u8 (op : Int)] w fun e w' => e = .returned (.bool (prtD op)) ∧ w' = w := by
  have HJ := hide (Jumps_any op w)
  have HE := hide (Ends_any op w)
  have e1 : (decide (op = 19) || decide (op = 20)) = jmpD op := rfl
  have e2 : (decide (op = 19) || decide (op = 22) || decide (op = 32)) = endD op := rfl
  rw [e1] at HJ
  rw [e2] at HE
  clear e1 e2
  cases hj : jmpD op
  · have HR : Hid (prtD op = endD op) := hide (by unfold prtD; rw [hj]; rfl)
    rw [hj] at HJ
    clear hj
    go_enter Tryd.func49, Tryd.ntmps49
    go_wp2_with fail
    refine (unhide HJ).mono ?_
    rintro e w1 ⟨rfl, rfl⟩
    go_wp2_with fail
    refine (unhide HE).mono ?_
    rintro e w2 ⟨rfl, rfl⟩
    go_wp2
    go_ret
    exact ⟨by rw [unhide HR]; rfl, rfl⟩
  · have HR : Hid (prtD op = true) := hide (by unfold prtD; rw [hj]; rfl)
    rw [hj] at HJ
    clear hj
    go_enter Tryd.func49, Tryd.ntmps49
    go_wp2_with fail
    refine (unhide HJ).mono ?_
    rintro e w1 ⟨rfl, rfl⟩
    go_wp2
    go_ret
    exact ⟨by rw [unhide HR]; rfl, rfl⟩

set_option maxRecDepth 20000 in
set_option maxHeartbeats 2000000 in
theorem rises_any (ao : Option Addr) (c : Nat) (l : List Ix) (w : World) (hx : XsAt w ao l) (hz : l.length ≤ 4400000000000) :
    Calls Tryd.prog 24 #[.slice ao l.length c] w fun e w' => e = .returned (.bool (rsB l)) ∧ Below w.heap.size w w' := by
  have HX := hide hx
  clear hx
  go_enter Tryd.func24, Tryd.ntmps24
  go_wp2
  go_loopw [3] (fun i wr => ∃ k : Nat, i = .int .i64 (k : Int) ∧ 1 ≤ k ∧ (k ≤ l.length ∨ k = 1) ∧ Hid (rsK l k) ∧ Hid (Below w.heap.size w wr)) (fun i _ => l.length + 1 - (intOf i).toNat)
  case atStart => exact ⟨1, rfl, by omega, .inr rfl, hide (fun i x y h => by omega), hide (Below.refl _ _)⟩
  case round =>
    obtain ⟨k, rfl, hk1, hk, HK, HB⟩ := hrel
    by_cases hlt : k < l.length
    · have j1 : ((k : Nat) : Int) < ((l.length : Nat) : Int) := by omega
      obtain ⟨m, rfl⟩ : ∃ m, k = m + 1 := ⟨k - 1, by omega⟩
      have j2 : ((m + 1 : Nat) : Int) - 1 = ((m : Nat) : Int) := by omega
      have j3 : ((m : Nat) : Int) < ((l.length : Nat) : Int) := by omega
      have hx := List.getElem?_eq_getElem hlt
      have hlt2 : m < l.length := by omega
      have hy := List.getElem?_eq_getElem hlt2
      obtain ⟨b, off, rfl, hxa⟩ := (unhide HX).below (unhide HB) (m + 1) _ hx
      obtain ⟨b', off', e, hya⟩ := (unhide HX).below (unhide HB) m _ hy
      injection e with e
      injection e with e1 e2
      subst e1 e2
      have c0 := hxa.c0
      have d0 := hya.c0
      have HXX := hide hx
      have HYY := hide hy
      generalize l[m + 1] = x at c0 HXX
      generalize l[m] = y at d0 HYY
      have HI : Hid (rsP l → y.p < x.p) := hide (fun h => h m y x (unhide HYY) (unhide HXX))
      have HN : Hid (y.p < x.p → rsK l (m + 1 + 1)) := hide (fun h i a b' hi ha hb => by
        by_cases e : i = m
        · subst e
          rw [unhide HYY] at ha
          rw [unhide HXX] at hb
          injection ha with ha
          injection hb with hb
          subst ha hb
          exact h
        · exact unhide HK i a b' (by omega) ha hb)
      clear hx hy hxa hya HXX HYY
      by_cases hp : x.p ≤ y.p
      · have HR : Hid (rsB l = false) := hide (by
          cases hq : rsB l
          · rfl
          · have := unhide HI ((rsB_iff l).1 hq)
            omega)
        go_wp2
        go_quiet (fail)
        go_wp2
        go_ret
        exact ⟨by rw [unhide HR]; rfl, belowD (unhide HB) _⟩
      · have HN2 := hide (unhide HN (by omega))
        go_wp2
        go_quiet (fail)
        go_wp2
        go_roundw
        case rel => exact ⟨m + 1 + 1, by go_num, by omega, .inl (by omega), HN2, hide (belowD (unhide HB) _)⟩
        case measure => simp [intOf]; omega
    · have j1 : ¬ ((k : Nat) : Int) < ((l.length : Nat) : Int) := by omega
      have HR : Hid (rsB l = true) := hide ((rsB_iff l).2 (fun i x y hx hy => unhide HK i x y (by have := (List.getElem?_eq_some_iff.1 hy).1; omega) hx hy))
      go_wp2
      go_ret
      exact ⟨by rw [unhide HR]; rfl, unhide HB⟩
end Go.Proofs.YtdpfinnclnapbaaDoor
