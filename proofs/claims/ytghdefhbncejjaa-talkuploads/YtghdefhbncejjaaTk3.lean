/-
  What a frame is read as, plainly; the contracts of talk.wordAt and talk.opened. Conditions: lengths fit.
-/
import Derived.Test.YtghdefhbncejjaaTk1
import Derived.ScopeJumps
import Derived.WalkMore
namespace Go.Proofs.Ytghdefhbncejjaa
open Go.RowKit
set_option linter.unusedVariables false

theorem wp_scope_ahead {P : Program} {a : Act} {w : World} {Q : Exit → Act → World → Prop} {c rest : Code} (l : Nat) (hf : findLabel c l = some rest)
    (first : c.wp P (Exit.jump l (fun a w => rest.wp P (Exit.noGoto Q) a w) Q) a w) : (Code.scope c).wp P Q a w := by
  refine wp_scope_jumps l (fun a w => rest.wp P (Exit.noGoto Q) a w) (fun _ _ => 0) hf first ?_
  intro a w hJ b k cs
  obtain ⟨e, a', w', hq, harr⟩ := hJ b k cs
  refine ⟨e, a', w', ?_, harr⟩
  cases e <;> first | exact hq | exact hq.elim
theorem jump_retT {l : Nat} {J : Act → World → Prop} {Q : Exit → Act → World → Prop} {a : Act} {w : World} : Exit.jump l J Q .ret a w = Q .ret a w := rfl

theorem bits_o64T (a b : Nat) (ha : a < 65536) (hb : b < 65536) : bits .or .i64 (a : Int) (b : Int) = ((a ||| b : Nat) : Int) := by
  have hlt : a ||| b < 65536 := Nat.or_lt_two_pow (n := 16) ha hb
  have h1 : (BitVec.ofInt 64 (a : Int)).toNat = a := by
    rw [BitVec.ofInt_natCast, BitVec.toNat_ofNat]; exact Nat.mod_eq_of_lt (by omega)
  have h2 : (BitVec.ofInt 64 (b : Int)).toNat = b := by
    rw [BitVec.ofInt_natCast, BitVec.toNat_ofNat]; exact Nat.mod_eq_of_lt (by omega)
  show IntKind.i64.wrap ((BitVec.ofInt 64 (a : Int) ||| BitVec.ofInt 64 (b : Int)).toNat : Int) = _
  rw [BitVec.toNat_or, h1, h2]
  simp [IntKind.wrap, IntKind.bits, IntKind.signed]
  omega
/-- The number of two bytes. -/
def wdT (L : List UInt8) (p : Nat) : Int := at8 L p * 256 + at8 L (p + 1)
theorem or_wordT (L : List UInt8) (p : Nat) : bits .or .i64 (at8 L p * 256) (at8 L (p + 1)) = wdT L p := by
  have h4 := (L.getD p 0).toNat_lt
  have h5 := (L.getD (p + 1) 0).toNat_lt
  have h6 := Nat.two_pow_add_eq_or_of_lt (i := 8) (b := (L.getD (p + 1) 0).toNat) (by omega) (L.getD p 0).toNat
  unfold wdT at8
  rw [show ((L.getD p 0).toNat : Int) * 256 = (((L.getD p 0).toNat * 256 : Nat) : Int) by omega, bits_o64T _ _ (by omega) (by omega), show (L.getD p 0).toNat * 256 = 2 ^ 8 * (L.getD p 0).toNat by omega, ← h6]
  omega
set_option maxHeartbeats 1000000 in
theorem wordAt_any (ao : Option Addr) (c : Nat) (L : List UInt8) (p : Nat) (w : World) (hb : BAt w ao L) (hp : p + 1 < L.length) (hl : L.length ≤ 562949953421312) :
    Calls Try.prog 35 #[.slice ao L.length c, .int .i64 (p : Int)] w fun e w' => e = .returned (.int .i64 (wdT L p)) ∧ ∃ k, w' = w.drewN k := by
  obtain ⟨b, off, rfl, hc⟩ := hb.head (by omega)
  have c1 := hc p (by omega)
  have c2 := hc (p + 1) (by omega)
  have lo := at8_lo L p
  have hi := at8_hi L p
  have lo2 := at8_lo L (p + 1)
  have hi2 := at8_hi L (p + 1)
  have HO := hide (or_wordT L p)
  generalize at8 L p = x at c1 lo hi HO
  generalize at8 L (p + 1) = y at c2 lo2 hi2 HO
  have i1 : ((p : Nat) : Int) < ((L.length : Nat) : Int) := by omega
  have i2 : ((p : Nat) : Int) + 1 < ((L.length : Nat) : Int) := by omega
  clear hc hb
  go_enter Try.func35, Try.ntmps35
  go_wp2
  go_quiet (fail)
  go_wp2
  go_ret
  exact ⟨ret_u32 (unhide HO), _, rfl⟩

/-- Where Data ends. -/
def opN (l : List UInt8) (hd : Nat) : Nat := hd + (l.getD (hd - 1) 0).toNat
/-- The error of bytes as a frame with that mark and so many bytes ahead of Data. -/
def opE (l : List UInt8) (mk : Int) (hd : Nat) : Int :=
  if l.length = 0 then 2 else if at8 l 0 ≠ mk then 240 else if l.length < hd then 2 else if l.length < opN l hd + 4 then 2 else if opN l hd + 4 < l.length then 3
  else if s32 (beN (l.drop (opN l hd))) ≠ s32 (sumOf (l.take (opN l hd))) then 161 else 0
def opL (l : List UInt8) (mk : Int) (hd : Nat) : List UInt8 := if opE l mk hd = 0 then (l.take (opN l hd)).drop hd else []
theorem BAt.dropT {w : World} {b off : Nat} {L : List UInt8} (h : BAt w (some ⟨b, off, none⟩) L) (k : Nat) : BAt w (some ⟨b, off + k, none⟩) (L.drop k) := by
  intro i hi
  obtain ⟨b', off', e, hc⟩ := h (k + i) (by rw [List.length_drop] at hi; omega)
  injection e with e
  injection e with e1 e2
  subst e1 e2
  refine ⟨_, _, rfl, ?_⟩
  rw [Nat.add_assoc, hc]
  unfold at8
  rw [List.getD_eq_getElem?_getD, List.getD_eq_getElem?_getD, List.getElem?_drop]
theorem BAt.frontT {w : World} {ao : Option Addr} {L : List UInt8} (h : BAt w ao L) (k : Nat) : BAt w ao (L.take k) := by
  intro i hi
  rw [List.length_take] at hi
  obtain ⟨b, off, e, hc⟩ := h i (by omega)
  refine ⟨b, off, e, ?_⟩
  rw [hc]
  unfold at8
  rw [List.getD_eq_getElem?_getD, List.getD_eq_getElem?_getD, List.getElem?_take, if_pos (by omega)]
set_option maxHeartbeats 4000000 in
theorem opened_nil (ao : Option Addr) (c : Nat) (l : List UInt8) (mk : Int) (hd : Nat) (w : World) (hb : BAt w ao l) (hlc : l.length ≤ c) (hl : l.length ≤ 140737488355328) (h1 : 1 ≤ hd) (h5 : hd ≤ 5) (h0 : l.length = 0) :
    Calls Try.prog 34 #[.slice ao l.length c, .int .u8 mk, .int .i64 (hd : Int)] w (PkPost w (opE l mk hd) (opL l mk hd)) := by
  have hE : opE l mk hd = 2 := by unfold opE; rw [if_pos h0]
  have HE := hide hE
  have HL := hide (show opL l mk hd = [] by unfold opL; rw [hE]; rfl)
  have i0 : ((l.length : Nat) : Int) = 0 := by omega
  clear hE h0
  go_enter Try.func34, Try.ntmps34
  go_wp2_with fail
  refine wp_scope_ahead 0 (by rfl) ?_
  go_wp2_with fail
  go_step3
  refine ⟨rfl, ?_⟩
  go_wp2_with fail
  try go_step3
  go_wp2
  rw [Exit.noGoto_ret]
  go_ret2
  exact ⟨.slice none 0 0, ret_eT (unhide HE).symm, own_eT (unhide HL) (World.ownsRow_nil _ _ _ _), Below.refl _ _⟩
set_option maxHeartbeats 4000000 in
theorem opened_mark (ao : Option Addr) (c : Nat) (l : List UInt8) (mk : Int) (hd : Nat) (w : World) (hb : BAt w ao l) (hlc : l.length ≤ c) (hl : l.length ≤ 140737488355328) (h1 : 1 ≤ hd) (h5 : hd ≤ 5) (h0 : 0 < l.length) (hm : at8 l 0 ≠ mk) :
    Calls Try.prog 34 #[.slice ao l.length c, .int .u8 mk, .int .i64 (hd : Int)] w (PkPost w (opE l mk hd) (opL l mk hd)) := by
  have hE : opE l mk hd = 240 := by unfold opE; rw [if_neg (by omega), if_pos hm]
  have HE := hide hE
  have HL := hide (show opL l mk hd = [] by unfold opL; rw [hE]; rfl)
  obtain ⟨b, off, rfl, hc⟩ := hb.head (by omega)
  have c0 : w.cell? ⟨b, off, none⟩ = some (.int .u8 (at8 l 0)) := hc 0 (by omega)
  have g0 : (0 : Int) < ((l.length : Nat) : Int) := by omega
  have b0 : (((l.length : Nat) : Int) == 0) = false := beq_f (by omega)
  have bm := bne_t hm
  generalize at8 l 0 = x at c0 bm
  clear hE hm hc hb
  go_enter Try.func34, Try.ntmps34
  go_wp2_with fail
  refine wp_scope_ahead 0 (by rfl) ?_
  go_wp2_with fail
  go_step3
  refine ⟨rfl, ?_⟩
  go_wp2_with fail
  try go_step3
  go_wp2
  rw [Exit.noGoto_ret]
  go_ret2
  exact ⟨.slice none 0 0, ret_eT (unhide HE).symm, own_eT (unhide HL) (World.ownsRow_nil _ _ _ _), Below.refl _ _⟩
set_option maxHeartbeats 4000000 in
theorem opened_few (ao : Option Addr) (c : Nat) (l : List UInt8) (mk : Int) (hd : Nat) (w : World) (hb : BAt w ao l) (hlc : l.length ≤ c) (hl : l.length ≤ 140737488355328) (h1 : 1 ≤ hd) (h5 : hd ≤ 5) (h0 : 0 < l.length) (hm : at8 l 0 = mk) (hf : l.length < hd) :
    Calls Try.prog 34 #[.slice ao l.length c, .int .u8 mk, .int .i64 (hd : Int)] w (PkPost w (opE l mk hd) (opL l mk hd)) := by
  have hE : opE l mk hd = 2 := by unfold opE; rw [if_neg (by omega), if_neg (by rw [hm]; simp), if_pos hf]
  have HE := hide hE
  have HL := hide (show opL l mk hd = [] by unfold opL; rw [hE]; rfl)
  obtain ⟨b, off, rfl, hc⟩ := hb.head (by omega)
  have c0 : w.cell? ⟨b, off, none⟩ = some (.int .u8 (at8 l 0)) := hc 0 (by omega)
  have g0 : (0 : Int) < ((l.length : Nat) : Int) := by omega
  have b0 : (((l.length : Nat) : Int) == 0) = false := beq_f (by omega)
  have bm := bne_f hm
  have i1 : ((l.length : Nat) : Int) < (hd : Int) := by omega
  generalize at8 l 0 = x at c0 bm
  clear hE hm hc hb
  go_enter Try.func34, Try.ntmps34
  go_wp2_with fail
  refine wp_scope_ahead 0 (by rfl) ?_
  go_wp2_with fail
  go_step3
  refine ⟨rfl, ?_⟩
  go_wp2_with fail
  try go_step3
  go_wp2
  rw [Exit.noGoto_ret]
  go_ret2
  exact ⟨.slice none 0 0, ret_eT (unhide HE).symm, own_eT (unhide HL) (World.ownsRow_nil _ _ _ _), Below.refl _ _⟩
set_option maxHeartbeats 4000000 in
theorem opened_short (ao : Option Addr) (c : Nat) (l : List UInt8) (mk : Int) (hd : Nat) (w : World) (hb : BAt w ao l) (hlc : l.length ≤ c) (hl : l.length ≤ 140737488355328) (h1 : 1 ≤ hd) (h5 : hd ≤ 5) (hm : at8 l 0 = mk) (hf : ¬ l.length < hd) (hs : l.length < opN l hd + 4) :
    Calls Try.prog 34 #[.slice ao l.length c, .int .u8 mk, .int .i64 (hd : Int)] w (PkPost w (opE l mk hd) (opL l mk hd)) := by
  have hE : opE l mk hd = 2 := by unfold opE; rw [if_neg (by omega), if_neg (by rw [hm]; simp), if_neg hf, if_pos hs]
  have HE := hide hE
  have HL := hide (show opL l mk hd = [] by unfold opL; rw [hE]; rfl)
  obtain ⟨b, off, rfl, hc⟩ := hb.head (by omega)
  have c0 : w.cell? ⟨b, off, none⟩ = some (.int .u8 (at8 l 0)) := hc 0 (by omega)
  have g0 : (0 : Int) < ((l.length : Nat) : Int) := by omega
  have b0 : (((l.length : Nat) : Int) == 0) = false := beq_f (by omega)
  have bm := bne_f hm
  have i1 : (hd : Int) ≤ ((l.length : Nat) : Int) := by omega
  generalize at8 l 0 = x at c0 bm
  have c1 := hc (hd - 1) (by omega)
  have hlt := (l.getD (hd - 1) 0).toNat_lt
  unfold opN at hs
  unfold at8 at c1
  generalize (l.getD (hd - 1) 0).toNat = n at c1 hs hlt
  obtain ⟨k, rfl⟩ : ∃ k, hd = k + 1 := ⟨hd - 1, by omega⟩
  rw [Nat.add_sub_cancel] at c1
  have i2 : ((l.length : Nat) : Int) < (k : Int) + 1 + (n : Int) + 4 := by omega
  have i3 : (k : Int) < ((l.length : Nat) : Int) := by omega
  push_cast at i1 ⊢
  clear hE hm hc hb hs
  go_enter Try.func34, Try.ntmps34
  go_wp2_with fail
  refine wp_scope_ahead 0 (by rfl) ?_
  go_wp2_with fail
  go_step3
  refine ⟨rfl, ?_⟩
  go_wp2_with fail
  try go_step3
  go_wp2
  rw [Exit.noGoto_ret]
  go_ret2
  exact ⟨.slice none 0 0, ret_eT (unhide HE).symm, own_eT (unhide HL) (World.ownsRow_nil _ _ _ _), Below.refl _ _⟩
set_option maxHeartbeats 4000000 in
theorem opened_more (ao : Option Addr) (c : Nat) (l : List UInt8) (mk : Int) (hd : Nat) (w : World) (hb : BAt w ao l) (hlc : l.length ≤ c) (hl : l.length ≤ 140737488355328) (h1 : 1 ≤ hd) (h5 : hd ≤ 5) (hm : at8 l 0 = mk) (hf : ¬ l.length < hd) (hs : opN l hd + 4 < l.length) :
    Calls Try.prog 34 #[.slice ao l.length c, .int .u8 mk, .int .i64 (hd : Int)] w (PkPost w (opE l mk hd) (opL l mk hd)) := by
  have hE : opE l mk hd = 3 := by unfold opE; rw [if_neg (by omega), if_neg (by rw [hm]; simp), if_neg hf, if_neg (by omega), if_pos hs]
  have HE := hide hE
  have HL := hide (show opL l mk hd = [] by unfold opL; rw [hE]; rfl)
  obtain ⟨b, off, rfl, hc⟩ := hb.head (by omega)
  have c0 : w.cell? ⟨b, off, none⟩ = some (.int .u8 (at8 l 0)) := hc 0 (by omega)
  have g0 : (0 : Int) < ((l.length : Nat) : Int) := by omega
  have b0 : (((l.length : Nat) : Int) == 0) = false := beq_f (by omega)
  have bm := bne_f hm
  have i1 : (hd : Int) ≤ ((l.length : Nat) : Int) := by omega
  generalize at8 l 0 = x at c0 bm
  have c1 := hc (hd - 1) (by omega)
  have hlt := (l.getD (hd - 1) 0).toNat_lt
  unfold opN at hs
  unfold at8 at c1
  generalize (l.getD (hd - 1) 0).toNat = n at c1 hs hlt
  obtain ⟨k, rfl⟩ : ∃ k, hd = k + 1 := ⟨hd - 1, by omega⟩
  rw [Nat.add_sub_cancel] at c1
  have i3 : (k : Int) < ((l.length : Nat) : Int) := by omega
  push_cast at i1 ⊢
  have i2 : (k : Int) + 1 + (n : Int) + 4 < ((l.length : Nat) : Int) := by omega
  clear hE hm hc hb hs
  go_enter Try.func34, Try.ntmps34
  go_wp2_with fail
  refine wp_scope_ahead 0 (by rfl) ?_
  go_wp2_with fail
  go_step3
  refine ⟨rfl, ?_⟩
  go_wp2_with fail
  try go_step3
  go_wp2
  rw [Exit.noGoto_ret]
  go_ret2
  exact ⟨.slice none 0 0, ret_eT (unhide HE).symm, own_eT (unhide HL) (World.ownsRow_nil _ _ _ _), Below.refl _ _⟩
set_option maxHeartbeats 4000000 in
theorem opened_good (ao : Option Addr) (c : Nat) (l : List UInt8) (mk : Int) (hd : Nat) (w : World) (hb : BAt w ao l) (hlc : l.length ≤ c) (hl : l.length ≤ 140737488355328) (h1 : 1 ≤ hd) (h5 : hd ≤ 5) (hm : at8 l 0 = mk) (hf : ¬ l.length < hd) (hs : l.length = opN l hd + 4) (hq : s32 (beN (l.drop (opN l hd))) = s32 (sumOf (l.take (opN l hd)))) :
    Calls Try.prog 34 #[.slice ao l.length c, .int .u8 mk, .int .i64 (hd : Int)] w (PkPost w (opE l mk hd) (opL l mk hd)) := by
  have hE : opE l mk hd = 0 := by unfold opE; rw [if_neg (by omega), if_neg (by rw [hm]; simp), if_neg hf, if_neg (by omega), if_neg (by omega), if_neg (by rw [hq]; simp)]
  have HE := hide hE
  have HL := hide (show opL l mk hd = (l.take (opN l hd)).drop hd by unfold opL; rw [if_pos hE])
  obtain ⟨b, off, rfl, hc⟩ := hb.head (by omega)
  have c0 : w.cell? ⟨b, off, none⟩ = some (.int .u8 (at8 l 0)) := hc 0 (by omega)
  have g0 : (0 : Int) < ((l.length : Nat) : Int) := by omega
  have b0 : (((l.length : Nat) : Int) == 0) = false := beq_f (by omega)
  have HBt := hide hb
  have HQ := hide hq
  clear hq
  obtain ⟨N, hN⟩ : ∃ N, N = opN l hd := ⟨_, rfl⟩
  rw [← hN] at hs HQ HL
  have hNd : N = hd + (l.getD (hd - 1) 0).toNat := hN
  have bm := bne_f hm
  have i1 : (hd : Int) ≤ ((l.length : Nat) : Int) := by omega
  generalize at8 l 0 = x at c0 bm
  have c1 := hc (hd - 1) (by omega)
  have hlt := (l.getD (hd - 1) 0).toNat_lt
  clear hN
  unfold at8 at c1
  generalize (l.getD (hd - 1) 0).toNat = n at c1 hNd hlt
  obtain ⟨k, rfl⟩ : ∃ k, hd = k + 1 := ⟨hd - 1, by omega⟩
  rw [Nat.add_sub_cancel] at c1
  have i3 : (k : Int) < ((l.length : Nat) : Int) := by omega
  push_cast at i1 ⊢
  have i2 : (N : Int) = (k : Int) + 1 + (n : Int) := by omega
  have hNl : N + 4 ≤ l.length := by omega
  have hNl2 : l.length ≤ N + 4 := by omega
  have HD : Hid (BAt w (some ⟨b, off + N, none⟩) (l.drop N)) := hide ((unhide HBt).dropT N)
  have HT : Hid (BAt w (some ⟨b, off, none⟩) (l.take N)) := hide ((unhide HBt).frontT N)
  have HNk : Hid (N = k + 1 + n) := hide hNd
  subst hNd
  obtain ⟨D, hD⟩ : ∃ D, D = l.drop (k + 1 + n) := ⟨_, rfl⟩
  obtain ⟨T, hT⟩ : ∃ T, T = l.take (k + 1 + n) := ⟨_, rfl⟩
  have hDl : D.length = l.length - (k + 1 + n) := by rw [hD, List.length_drop]
  have hTl : T.length = k + 1 + n := by rw [hT, List.length_take]; omega
  rw [← hD] at HD HQ
  rw [← hT] at HT HQ HL
  have HTm : Hid (BAt w (some ⟨b, off + (k + 1), none⟩) (T.drop (k + 1))) := hide ((unhide HT).dropT (k + 1))
  have hMl : (T.drop (k + 1)).length = n := by rw [List.length_drop, hTl]; omega
  have HOv := hide (Over_any (some ⟨b, off + (k + 1 + n), none⟩) (c - (k + 1 + n)) D w (unhide HD) (by omega))
  rw [hDl] at HOv
  have hD4 : ¬ D.length - 0 < 4 := by omega
  have hV : numV D 0 4 = s32 (beN D) := by
    unfold numV
    rw [if_neg hD4, if_pos rfl, List.drop_zero, List.take_of_length_le (by omega)]
  have HV := hide hV
  have HTl := hide hTl
  have HMl := hide hMl
  clear hE hm hc hb hs hD hT hDl hTl hMl hV HNk i2
  go_enter Try.func34, Try.ntmps34
  go_wp2_with fail
  refine wp_scope_ahead 0 (by rfl) ?_
  go_wp2_with fail
  refine (unhide HOv).mono ?_
  rintro e W1 ⟨p, g, rfl, hp, hg, hR, hb1⟩
  have HB1 := hide hb1
  have HLo := hide (Long_u hR)
  rw [unhide HV] at HLo
  have hplt : p < W1.heap.size := by have := hR.row; exact (Array.getElem?_eq_some_iff.1 this).1
  clear hg hR hb1 HOv
  go_wp2_with fail
  refine (unhide HLo).mono ?_
  rintro e W2 ⟨rfl, -, hg2⟩
  have HB2 := hide ((unhide HB1).grown hg2 (unhide HB1).size (fun q e => by injection e with e; omega))
  have HSu := hide (sumT_any (some ⟨b, off, none⟩) c T W2 ((unhide HT).below' (unhide HB2)) (by rw [unhide HTl]; omega))
  rw [unhide HTl] at HSu
  obtain ⟨X, hX⟩ : ∃ X, X = s32 (beN D) := ⟨_, rfl⟩
  obtain ⟨Y, hY⟩ : ∃ Y, Y = s32 (sumOf T) := ⟨_, rfl⟩
  rw [← hX] at HQ ⊢
  rw [← hY] at HQ HSu
  clear hg2 HLo hX hY
  go_wp2_with fail
  refine (unhide HSu).mono ?_
  rintro e W3 ⟨rfl, hb3⟩
  have HB3 := hide ((unhide HB2).trans (hb3.mono (unhide HB2).size))
  clear hb3 HSu
  have hxy := bne_f (unhide HQ)
  have HSr : Hid (SrcB W3 (.slice (some ⟨b, off + (k + 1), none⟩) n (c - (k + 1))) (T.drop (k + 1))) := hide (Or.inr ⟨_, _, by rw [unhide HMl], (unhide HTm).below' (unhide HB3)⟩)
  have HON : Hid (OwnB W3 w.heap.size (.slice none 0 0) []) := hide (World.ownsRow_nil _ _ _ _)
  go_wp2_with (at_builtin; refine wpList_appendB rfl (.tmp 55) (.tmp 59) rfl w.heap.size (.slice none 0 0) [] rfl (unhide HON) (.slice (some ⟨b, off + (k + 1), none⟩) n (c - (k + 1))) (T.drop (k + 1)) (by first | rfl | simp [Act.eval]) (unhide HSr) ?z6 (unhide HB3).size ?_)
  case z6 => rw [unhide HMl]; simp; omega
  intro v6 w6 hO6 hG6 hF6 hF7
  have HB6 := hide ((unhide HB3).grown hG6 (unhide HB3).size (fun q e => by cases e))
  have HO6 := hide hO6
  clear hO6 hG6 hF6 hF7 HSr HON
  go_wp2
  try rw [jump_retT]
  go_ret2
  exact ⟨v6, ret_eT (unhide HE).symm, own_eT (unhide HL) (unhide HO6), unhide HB6⟩
set_option maxHeartbeats 4000000 in
theorem opened_sum (ao : Option Addr) (c : Nat) (l : List UInt8) (mk : Int) (hd : Nat) (w : World) (hb : BAt w ao l) (hlc : l.length ≤ c) (hl : l.length ≤ 140737488355328) (h1 : 1 ≤ hd) (h5 : hd ≤ 5) (hm : at8 l 0 = mk) (hf : ¬ l.length < hd) (hs : l.length = opN l hd + 4) (hq : s32 (beN (l.drop (opN l hd))) ≠ s32 (sumOf (l.take (opN l hd)))) :
    Calls Try.prog 34 #[.slice ao l.length c, .int .u8 mk, .int .i64 (hd : Int)] w (PkPost w (opE l mk hd) (opL l mk hd)) := by
  have hE : opE l mk hd = 161 := by unfold opE; rw [if_neg (by omega), if_neg (by rw [hm]; simp), if_neg hf, if_neg (by omega), if_neg (by omega), if_pos hq]
  have HE := hide hE
  have HL := hide (show opL l mk hd = [] by unfold opL; rw [hE]; rfl)
  obtain ⟨b, off, rfl, hc⟩ := hb.head (by omega)
  have c0 : w.cell? ⟨b, off, none⟩ = some (.int .u8 (at8 l 0)) := hc 0 (by omega)
  have g0 : (0 : Int) < ((l.length : Nat) : Int) := by omega
  have b0 : (((l.length : Nat) : Int) == 0) = false := beq_f (by omega)
  have HBt := hide hb
  have HQ := hide hq
  clear hq
  obtain ⟨N, hN⟩ : ∃ N, N = opN l hd := ⟨_, rfl⟩
  rw [← hN] at hs HQ
  have hNd : N = hd + (l.getD (hd - 1) 0).toNat := hN
  have bm := bne_f hm
  have i1 : (hd : Int) ≤ ((l.length : Nat) : Int) := by omega
  generalize at8 l 0 = x at c0 bm
  have c1 := hc (hd - 1) (by omega)
  have hlt := (l.getD (hd - 1) 0).toNat_lt
  clear hN
  unfold at8 at c1
  generalize (l.getD (hd - 1) 0).toNat = n at c1 hNd hlt
  obtain ⟨k, rfl⟩ : ∃ k, hd = k + 1 := ⟨hd - 1, by omega⟩
  rw [Nat.add_sub_cancel] at c1
  have i3 : (k : Int) < ((l.length : Nat) : Int) := by omega
  push_cast at i1 ⊢
  have i2 : (N : Int) = (k : Int) + 1 + (n : Int) := by omega
  have hNl : N + 4 ≤ l.length := by omega
  have hNl2 : l.length ≤ N + 4 := by omega
  have HD : Hid (BAt w (some ⟨b, off + N, none⟩) (l.drop N)) := hide ((unhide HBt).dropT N)
  have HT : Hid (BAt w (some ⟨b, off, none⟩) (l.take N)) := hide ((unhide HBt).frontT N)
  have HNk : Hid (N = k + 1 + n) := hide hNd
  subst hNd
  obtain ⟨D, hD⟩ : ∃ D, D = l.drop (k + 1 + n) := ⟨_, rfl⟩
  obtain ⟨T, hT⟩ : ∃ T, T = l.take (k + 1 + n) := ⟨_, rfl⟩
  have hDl : D.length = l.length - (k + 1 + n) := by rw [hD, List.length_drop]
  have hTl : T.length = k + 1 + n := by rw [hT, List.length_take]; omega
  rw [← hD] at HD HQ
  rw [← hT] at HT HQ
  have HTm : Hid (BAt w (some ⟨b, off + (k + 1), none⟩) (T.drop (k + 1))) := hide ((unhide HT).dropT (k + 1))
  have hMl : (T.drop (k + 1)).length = n := by rw [List.length_drop, hTl]; omega
  have HOv := hide (Over_any (some ⟨b, off + (k + 1 + n), none⟩) (c - (k + 1 + n)) D w (unhide HD) (by omega))
  rw [hDl] at HOv
  have hD4 : ¬ D.length - 0 < 4 := by omega
  have hV : numV D 0 4 = s32 (beN D) := by
    unfold numV
    rw [if_neg hD4, if_pos rfl, List.drop_zero, List.take_of_length_le (by omega)]
  have HV := hide hV
  have HTl := hide hTl
  have HMl := hide hMl
  clear hE hm hc hb hs hD hT hDl hTl hMl hV HNk i2
  go_enter Try.func34, Try.ntmps34
  go_wp2_with fail
  refine wp_scope_ahead 0 (by rfl) ?_
  go_wp2_with fail
  refine (unhide HOv).mono ?_
  rintro e W1 ⟨p, g, rfl, hp, hg, hR, hb1⟩
  have HB1 := hide hb1
  have HLo := hide (Long_u hR)
  rw [unhide HV] at HLo
  have hplt : p < W1.heap.size := by have := hR.row; exact (Array.getElem?_eq_some_iff.1 this).1
  clear hg hR hb1 HOv
  go_wp2_with fail
  refine (unhide HLo).mono ?_
  rintro e W2 ⟨rfl, -, hg2⟩
  have HB2 := hide ((unhide HB1).grown hg2 (unhide HB1).size (fun q e => by injection e with e; omega))
  have HSu := hide (sumT_any (some ⟨b, off, none⟩) c T W2 ((unhide HT).below' (unhide HB2)) (by rw [unhide HTl]; omega))
  rw [unhide HTl] at HSu
  obtain ⟨X, hX⟩ : ∃ X, X = s32 (beN D) := ⟨_, rfl⟩
  obtain ⟨Y, hY⟩ : ∃ Y, Y = s32 (sumOf T) := ⟨_, rfl⟩
  rw [← hX] at HQ ⊢
  rw [← hY] at HQ HSu
  clear hg2 HLo hX hY
  go_wp2_with fail
  refine (unhide HSu).mono ?_
  rintro e W3 ⟨rfl, hb3⟩
  have HB3 := hide ((unhide HB2).trans (hb3.mono (unhide HB2).size))
  clear hb3 HSu
  have hxy := bne_t (unhide HQ)
  go_wp2_with fail
  go_step3
  refine ⟨rfl, ?_⟩
  go_wp2_with fail
  try go_step3
  go_wp2
  rw [Exit.noGoto_ret]
  go_ret2
  exact ⟨.slice none 0 0, ret_eT (unhide HE).symm, own_eT (unhide HL) (World.ownsRow_nil _ _ _ _), unhide HB3⟩
theorem opened_any (ao : Option Addr) (c : Nat) (l : List UInt8) (mk : Int) (hd : Nat) (w : World) (hb : BAt w ao l) (hlc : l.length ≤ c) (hl : l.length ≤ 140737488355328) (h1 : 1 ≤ hd) (h5 : hd ≤ 5) :
    Calls Try.prog 34 #[.slice ao l.length c, .int .u8 mk, .int .i64 (hd : Int)] w (PkPost w (opE l mk hd) (opL l mk hd)) := by
  by_cases h0 : l.length = 0
  · exact opened_nil ao c l mk hd w hb hlc hl h1 h5 h0
  by_cases hm : at8 l 0 = mk
  · by_cases hf : l.length < hd
    · exact opened_few ao c l mk hd w hb hlc hl h1 h5 (by omega) hm hf
    by_cases hs : l.length < opN l hd + 4
    · exact opened_short ao c l mk hd w hb hlc hl h1 h5 hm hf hs
    by_cases ho : opN l hd + 4 < l.length
    · exact opened_more ao c l mk hd w hb hlc hl h1 h5 hm hf ho
    by_cases hq : s32 (beN (l.drop (opN l hd))) = s32 (sumOf (l.take (opN l hd)))
    · exact opened_good ao c l mk hd w hb hlc hl h1 h5 hm hf (by omega) hq
    · exact opened_sum ao c l mk hd w hb hlc hl h1 h5 hm hf (by omega) hq
  · exact opened_mark ao c l mk hd w hb hlc hl h1 h5 (by omega) hm
end Go.Proofs.Ytghdefhbncejjaa
