/-
  Contracts of a reader's next and number: the next n bytes of it, or the error that the document names. Conditions: lengths fit.
-/
import Derived.Test.YtkiijdcpfbnacaaGreatDoorReader
namespace Go.Proofs.YtkiijdcpfbnacaaGreatDoor
open Go.RowKit
set_option maxRecDepth 20000

theorem BAt.sub {w : World} {g : Nat} {l : List UInt8} (h : BAt w (some ⟨g, 0, none⟩) l) (k n : Nat) : BAt w (some ⟨g, k, none⟩) ((l.drop k).take n) := by
  intro i hi
  have hi' : i < n ∧ k + i < l.length := by simp at hi; omega
  obtain ⟨b, off, e, hc⟩ := h (k + i) hi'.2
  injection e with e
  injection e with e1 e2
  subst e1 e2
  refine ⟨g, k, rfl, ?_⟩
  rw [Nat.zero_add] at hc
  rw [hc]
  unfold at8
  rw [List.getD_eq_getElem?_getD, List.getD_eq_getElem?_getD, List.getElem?_take_of_lt hi'.1, List.getElem?_drop]

theorem ret_next {ao : Option Addr} {m n c : Nat} (h : m = n) : Ending.returned (.tuple #[.slice ao m c, .int .i64 0]) = .returned (.tuple #[.slice ao n c, .int .i64 0]) := by rw [h]

theorem next_arg {w : World} {p g cap : Nat} {l : List UInt8} {k : Nat} (h : IsReader w p g cap l k) (n : Int) (hn : n < 0) :
    Calls Tryz.prog 113 #[.pointer (some ⟨p, 0, none⟩), .int .i64 n] w fun e w' => e = .returned (.tuple #[.slice none 0 0, .int .i64 1]) ∧ w' = w := by
  go_enter Tryz.func113, Tryz.ntmps113
  go_wp2_with (go_at_call 92; refine (isMade_yes h).mono ?_; rintro e w' ⟨rfl, rfl⟩)
  go_ret2
  exact ⟨rfl, rfl⟩

theorem next_short {w : World} {p g cap : Nat} {l : List UInt8} {k : Nat} (h : IsReader w p g cap l k) (n : Int) (hn : ((l.length - k : Nat) : Int) < n) :
    Calls Tryz.prog 113 #[.pointer (some ⟨p, 0, none⟩), .int .i64 n] w fun e w' => e = .returned (.tuple #[.slice none 0 0, .int .i64 2]) ∧ ∃ j, w' = w.drewN j := by
  have hn0 : ¬ n < 0 := by omega
  go_enter Tryz.func113, Tryz.ntmps113
  go_wp2_with (first | (go_at_call 92; refine (isMade_yes h).mono ?_; rintro e w' ⟨rfl, rfl⟩) | (go_at_call 68; refine (Left_any h).mono ?_; rintro e w' ⟨rfl, j, rfl⟩))
  go_ret2
  exact ⟨rfl, _, rfl⟩

theorem next_ok {w : World} {p g cap : Nat} {l : List UInt8} {k : Nat} (h : IsReader w p g cap l k) (n : Nat) (hn : n ≤ l.length - k) :
    Calls Tryz.prog 113 #[.pointer (some ⟨p, 0, none⟩), .int .i64 (n : Int)] w fun e w' => ∃ ao c, e = .returned (.tuple #[.slice ao n c, .int .i64 0]) ∧
      BAt w' ao ((l.drop k).take n) ∧ IsReader w' p g cap l (k + n) ∧ w.grownBy w' (some p) := by
  have hle := h.le
  have hfit := h.fit
  have hcap := h.cap_
  have hn0 : ¬ (n : Int) < 0 := by omega
  have hn1 : ¬ ((l.length - k : Nat) : Int) < (n : Int) := by omega
  have c0 := h.c0
  have c1 := h.c1
  have f1 := h.f1
  go_enter Tryz.func113, Tryz.ntmps113
  go_wp2_with (first | (go_at_call 92; refine (isMade_yes h).mono ?_; rintro e w' ⟨rfl, rfl⟩) | (go_at_call 68; refine (Left_any h).mono ?_; rintro e w' ⟨rfl, j, rfl⟩))
  have hR := (h.drewN j).go (m := k + n) (by omega) ((k : Int) + (n : Int)) (by omega)
  have hG : World.grownBy w' (World.setCell (World.drewN w' j) ⟨p, 1, none⟩ (.int .i64 ((k : Int) + (n : Int)))) (some p) := grown_trans (grown_drewN _ j _) (grown_setCell _ ⟨p, 1, none⟩ (.int .i64 ((k : Int) + (n : Int))))
  generalize World.setCell (World.drewN w' j) ⟨p, 1, none⟩ (.int .i64 ((k : Int) + (n : Int))) = W at hR hG ⊢
  have d0 := hR.c0
  have d1 := hR.c1
  rw [show (((k + n : Nat) : Int)) = (k : Int) + (n : Int) from by omega] at d1
  have b1 : (k : Int) ≤ (k : Int) + (n : Int) := by omega
  have b2 : (k : Int) + (n : Int) ≤ (cap : Int) := by omega
  clear c0 c1 f1 h
  have HR := hide hR
  have HG := hide hG
  clear hR hG
  by_cases hck : cap = k
  · have hn' : n = 0 := by omega
    have HL : Hid ((l.drop k).take n = []) := hide (by rw [hn']; rfl)
    clear hn'
    have hle2 : k ≤ cap := by omega
    go_quiet (fail)
    go_wp2
    all_goals go_ret2
    all_goals refine ⟨some ⟨g, 0, none⟩, 0, ret_next (by omega), ?_, (unhide HR).drewN _, grown_trans (unhide HG) (grown_drewN _ _ _)⟩
    all_goals (rw [unhide HL]; exact BAt.nil _ _)
  · have hck' : k < cap := by omega
    go_quiet (fail)
    go_wp2
    all_goals go_ret2
    all_goals refine ⟨some ⟨g, k, none⟩, cap - k, ret_next (by omega), ?_, (unhide HR).drewN _, grown_trans (unhide HG) (grown_drewN _ _ _)⟩
    all_goals exact BAt.drewN ((unhide HR).bytes.sub k n) _

/-- The number of some bytes, high byte first. -/
def beN (l : List UInt8) : Nat := l.foldl (fun a x => a * 256 + x.toNat) 0
theorem beN_snoc (l : List UInt8) (x : UInt8) : beN (l ++ [x]) = beN l * 256 + x.toNat := by simp [beN]
theorem beN_take (l : List UInt8) (k : Nat) (h : k < l.length) : beN (l.take (k + 1)) = beN (l.take k) * 256 + (l.getD k 0).toNat := by
  rw [List.take_succ_eq_append_getElem h, beN_snoc, List.getD_eq_getElem?_getD, List.getElem?_eq_getElem h]; rfl
theorem beN_lt (l : List UInt8) : beN l < 256 ^ l.length := by
  suffices ∀ n, n ≤ l.length → beN (l.take n) < 256 ^ n from by simpa using this l.length (Nat.le_refl _)
  intro n
  induction n with
  | zero => intro _; simp [beN]
  | succ n ih =>
    intro h
    rw [beN_take l n (by omega)]
    have h1 := ih (by omega)
    have h2 := (l.getD n 0).toNat_lt
    rw [Nat.pow_succ]
    omega

theorem bits_o32 (a b : Nat) (ha : a < 4294967296) (hb : b < 4294967296) : bits .or .u32 (a : Int) (b : Int) = ((a ||| b : Nat) : Int) := by
  have hx : a ||| b < 2 ^ 32 := Nat.or_lt_two_pow (by omega) (by omega)
  have h1 : (BitVec.ofInt 32 (a : Int)).toNat = a := by
    rw [BitVec.ofInt_natCast, BitVec.toNat_ofNat]; exact Nat.mod_eq_of_lt (by omega)
  have h2 : (BitVec.ofInt 32 (b : Int)).toNat = b := by
    rw [BitVec.ofInt_natCast, BitVec.toNat_ofNat]; exact Nat.mod_eq_of_lt (by omega)
  have hw : ∀ n : Int, IntKind.u32.wrap n = n % 4294967296 := fun n => by simp [IntKind.wrap, IntKind.bits, IntKind.signed]
  show IntKind.u32.wrap ((BitVec.ofInt 32 (a : Int) ||| BitVec.ofInt 32 (b : Int)).toNat : Int) = _
  rw [BitVec.toNat_or, h1, h2, hw]
  omega
theorem or_byte (C m : Nat) (L : List UInt8) (hC : C < 256 ^ m) (hm : m < 4) : bits .or .u32 ((C : Int) * 256 % 4294967296) (at8 L m) = ((C * 256 + (L.getD m 0).toNat : Nat) : Int) := by
  have h1 : 256 ^ m ≤ 256 ^ 3 := Nat.pow_le_pow_right (by omega) (by omega)
  have h2 : C < 16777216 := by omega
  have h3 : (C : Int) * 256 % 4294967296 = ((C * 256 : Nat) : Int) := by omega
  have h4 := (L.getD m 0).toNat_lt
  have h5 := Nat.two_pow_add_eq_or_of_lt (i := 8) (b := (L.getD m 0).toNat) (by omega) C
  rw [h3]
  unfold at8
  rw [bits_o32 _ _ (by omega) (by omega)]
  rw [show C * 256 = 2 ^ 8 * C from by omega, ← h5]

theorem ret_num {k : IntKind} {a b e : Int} (h : a = b) : Ending.returned (.tuple #[.int k a, .int .i64 e]) = .returned (.tuple #[.int k b, .int .i64 e]) := by rw [h]
theorem number_err {w : World} {p g cap : Nat} {l : List UInt8} {k : Nat} (h : IsReader w p g cap l k) (n : Int) (hn : ((l.length - k : Nat) : Int) < n) :
    Calls Tryz.prog 111 #[.pointer (some ⟨p, 0, none⟩), .int .i64 n] w fun e w' => e = .returned (.tuple #[.int .u32 0, .int .i64 2]) ∧ ∃ j, w' = w.drewN j := by
  go_enter Tryz.func111, Tryz.ntmps111
  go_wp2_with (go_at_call 113; refine (next_short h n hn).mono ?_; rintro e w' ⟨rfl, j, rfl⟩)
  refine wp_loop_rounds 1 ?_
  rw [rounds_succ]
  go_wp2
  go_ret2
  exact ⟨rfl, _, rfl⟩

theorem number_ok {w : World} {p g cap : Nat} {l : List UInt8} {k : Nat} (h : IsReader w p g cap l k) (n : Nat) (hn : n ≤ l.length - k) (hn4 : n ≤ 4) :
    Calls Tryz.prog 111 #[.pointer (some ⟨p, 0, none⟩), .int .i64 (n : Int)] w fun e w' => e = .returned (.tuple #[.int .u32 ((beN ((l.drop k).take n) : Nat) : Int), .int .i64 0]) ∧
      IsReader w' p g cap l (k + n) ∧ w.grownBy w' (some p) := by
  have hlen : ((l.drop k).take n).length = n := by simp; omega
  go_enter Tryz.func111, Tryz.ntmps111
  go_wp2_with fail
  refine (next_ok h n hn).mono ?_
  rintro e w1 ⟨ao, c, rfl, hb, hR, hG⟩
  generalize hL : (l.drop k).take n = L at hlen hb ⊢
  subst hlen
  have HL := hide hL
  have HR := hide hR
  have HG := hide hG
  clear hL hR hG
  go_wp2
  go_loop [8, 19] (fun v i => ∃ m C : Nat, m ≤ L.length ∧ i = .int .i64 m ∧ v = .int .u32 (C : Int) ∧ C < 256 ^ m ∧ Hid (C = beN (L.take m))) (fun _ i => L.length - (intOf i).toNat)
  case atStart => exact ⟨0, 0, by omega, rfl, rfl, by decide, hide rfl⟩
  case round =>
    obtain ⟨m, C, hm, rfl, rfl, hC, HC⟩ := hrel
    by_cases hlt : m < L.length
    · obtain ⟨b, off, rfl, hc⟩ := hb.head (by omega)
      have c1 := hc m hlt
      have lo := at8_lo L m
      have hi := at8_hi L m
      have i1 : ((m : Nat) : Int) < ((L.length : Nat) : Int) := by omega
      clear hc hb
      have HO := hide (or_byte C m L hC (by omega))
      have HN := hide (beN_take L m hlt)
      have hC' : C * 256 + (L.getD m 0).toNat < 256 ^ (m + 1) := by
        have h4 := (L.getD m 0).toNat_lt
        rw [Nat.pow_succ]
        omega
      have HC' := hide hC'
      clear hC'
      go_wp2
      go_round
      case rel => exact ⟨m + 1, C * 256 + (L.getD m 0).toNat, by omega, by go_num, val_int (unhide HO), unhide HC', hide (by rw [unhide HN, ← unhide HC])⟩
      case measure => simp [intOf]; omega
    · have HE : Hid (C = beN ((l.drop k).take L.length)) := hide (by rw [unhide HL, unhide HC, List.take_of_length_le (by omega)])
      go_wp2
      go_ret2
      exact ⟨ret_num (by rw [unhide HE]), unhide HR, unhide HG⟩

/-- What a number of two's complement in 32 bits is. -/
def s32 (n : Nat) : Int := if n < 2147483648 then (n : Int) else (n : Int) - 4294967296

theorem Byte_err {w : World} {p g cap : Nat} {l : List UInt8} {k : Nat} (h : IsReader w p g cap l k) (hn : l.length - k < 1) :
    Calls Tryz.prog 105 #[.pointer (some ⟨p, 0, none⟩)] w fun e w' => e = .returned (.tuple #[.int .i64 0, .int .i64 2]) ∧ ∃ j, w' = w.drewN j := by
  go_enter Tryz.func105, Tryz.ntmps105
  go_wp2_with (go_at_call 111; refine (number_err h 1 (by omega)).mono ?_; rintro e w' ⟨rfl, j, rfl⟩)
  go_ret2
  exact ⟨rfl, _, rfl⟩
theorem Byte_ok {w : World} {p g cap : Nat} {l : List UInt8} {k : Nat} (h : IsReader w p g cap l k) (hn : 1 ≤ l.length - k) :
    Calls Tryz.prog 105 #[.pointer (some ⟨p, 0, none⟩)] w fun e w' => e = .returned (.tuple #[.int .i64 (at8 l k), .int .i64 0]) ∧ IsReader w' p g cap l (k + 1) ∧ w.grownBy w' (some p) := by
  have e1 : ((beN ((l.drop k).take 1) : Nat) : Int) = at8 l k := by
    have hk : k < l.length := by omega
    have e : (l.drop k).take 1 = [l[k]] := by rw [List.drop_eq_getElem_cons hk]; rfl
    rw [e]
    unfold at8
    rw [List.getD_eq_getElem?_getD, List.getElem?_eq_getElem hk]
    simp [beN]
  have lo := at8_lo l k
  have hi := at8_hi l k
  have HE := hide e1
  clear e1
  go_enter Tryz.func105, Tryz.ntmps105
  go_wp2_with fail
  refine (number_ok h 1 hn (by omega)).mono ?_
  rintro e w1 ⟨rfl, hR, hG⟩
  rw [unhide HE]
  go_wp2
  go_ret2
  exact ⟨rfl, hR, hG⟩
end Go.Proofs.YtkiijdcpfbnacaaGreatDoor
