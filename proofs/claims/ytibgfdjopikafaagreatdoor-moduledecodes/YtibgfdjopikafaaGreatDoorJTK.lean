/-
  Texts of contracts and plain lemmas, one behind another; each says at its head what it holds.
-/
import Derived.Test.YtibgfdjopikafaaGreatDoorJWR
import Derived.Test.YtibgfdjopikafaaGreatDoorSum
import Derived.Test.YtibgfdjopikafaaGreatDoorBx1
import Derived.Deep.Cut
import Derived.ScopeJumps
import Derived.WalkMore
import Derived.Deep.RegionWith
import Derived.Handy
import Derived.Deep.RegionHeld
/-
  Frames of talk: their bytes, plainly; the contracts of talk.sumOf, closed, Pack and Told. Conditions: lengths fit.
-/
namespace Go.Proofs.YtibgfdjopikafaaGreatDoor
open Go.RowKit
set_option maxRecDepth 20000

/-- Bytes, and their sum behind them. -/
def tsum (L : List UInt8) : List UInt8 := L ++ be (sumOf L : Int) 4
/-- A frame: what it begins with, how many bytes, these, the sum. -/
def frT (l m : List UInt8) : List UInt8 := tsum (l ++ be (m.length : Int) 1 ++ m)
theorem be_s32 (C : Nat) : be (s32 C) 4 = be (C : Int) 4 := by
  unfold be
  apply List.map_congr_left
  intro i hi
  have hi4 : i < 4 := by simpa using hi
  unfold byteOf s32
  congr 2
  have hc : i = 0 ∨ i = 1 ∨ i = 2 ∨ i = 3 := by omega
  rcases hc with rfl | rfl | rfl | rfl <;> simp <;> split <;> omega
theorem tsum_len (L : List UInt8) : (tsum L).length = L.length + 4 := by unfold tsum; rw [List.length_append, be_length]
theorem frT_len (l m : List UInt8) : (frT l m).length = l.length + 1 + m.length + 4 := by unfold frT; rw [tsum_len]; simp [be_length]; omega
/-- What a request's and an answer's frame begin with. -/
def rqH (c n : Int) : List UInt8 := be 80 1 ++ be c 1 ++ be n 2
def anH (s : Int) : List UInt8 := be 112 1 ++ be s 2
def rqE (c n : Int) (m : List UInt8) : Int := if c < 0 ∨ 255 < c then 5 else if n < 0 ∨ 65535 < n then 5 else if 255 < m.length then 4 else 0
def rqL (c n : Int) (m : List UInt8) : List UInt8 := if rqE c n m = 0 then frT (rqH c n) m else []
def anE (s : Int) (m : List UInt8) : Int := if s < 0 ∨ 65535 < s then 5 else if 255 < m.length then 4 else 0
def anL (s : Int) (m : List UInt8) : List UInt8 := if anE s m = 0 then frT (anH s) m else []
theorem rqH_len (c n : Int) : (rqH c n).length = 4 := by simp [rqH, be_length]
theorem anH_len (s : Int) : (anH s).length = 3 := by simp [anH, be_length]

theorem srcT {w : World} {ao : Option Addr} {c : Nat} {l : List UInt8} (h : BAt w ao l) (hn : ao = none → l = [] ∧ c = 0) : SrcB w (.slice ao l.length c) l := by
  cases ao with
  | none =>
    obtain ⟨h1, h2⟩ := hn rfl
    subst h1 h2
    exact Or.inl ⟨rfl, rfl⟩
  | some x => exact Or.inr ⟨x, c, rfl, h⟩
theorem wE_ok {L : List UInt8} {n : Int} {s : Nat} (hL : L.length ≤ 1000) (hs : s ≤ 4) (hn : ¬ (n < loN s ∨ hiN s < n)) : wE L n s = 0 ∧ wL L n s = L ++ be n s := by
  have h1 : wE L n s = 0 := by unfold wE; rw [if_neg hn, if_neg (by omega)]
  exact ⟨h1, by unfold wL; rw [if_pos h1]⟩
theorem wE_no {L : List UInt8} {n : Int} {s : Nat} (hn : n < loN s ∨ hiN s < n) : wE L n s = 5 ∧ wL L n s = L := by
  have h1 : wE L n s = 5 := by unfold wE; rw [if_pos hn]
  exact ⟨h1, by unfold wL; rw [h1]; rfl⟩
theorem jE_ok {L m : List UInt8} (hL : L.length ≤ 1000) (hm : m.length ≤ 1000) : jE L m = 0 ∧ jL L m = L ++ m := by
  have h1 : jE L m = 0 := by unfold jE; rw [if_neg (by omega)]
  exact ⟨h1, by unfold jL; rw [if_pos h1]⟩
theorem below_wT {B p : Nat} {w0 w w' : World} {v : Value} (hb : Below B w0 w) (hB : B ≤ w.heap.size) (hp : B ≤ p) (hv : ∀ k, v.ownBlock = some k → B ≤ k) (hk : Kept (WT p v) w w') : Below B w0 w' :=
  hk.below hb hB (fun k h => by
    rcases h with h | h
    · omega
    · exact hv k h)

theorem ret_eT {v : Value} {a b : Int} (h : a = b) : Ending.returned (.tuple #[v, .int .i64 a]) = .returned (.tuple #[v, .int .i64 b]) := by rw [h]
theorem own_eT {w : World} {B : Nat} {v : Value} {L L' : List UInt8} (h : L' = L) (o : OwnB w B v L) : OwnB w B v L' := by rw [h]; exact o
/-- What Pack and Told answer: a row of bytes of its own, and an error. -/
def PkPost (w : World) (code : Int) (L : List UInt8) (e : Ending) (w' : World) : Prop := ∃ v, e = .returned (.tuple #[v, .int .i64 code]) ∧ OwnB w' w.heap.size v L ∧ Below w.heap.size w w'

end Go.Proofs.YtibgfdjopikafaaGreatDoor

/-
  Contracts of the document's word, Summed, Pack and Answered: the same frames as talk's. Conditions: lengths fit.
-/
namespace Go.Proofs.YtibgfdjopikafaaGreatDoor
open Go.RowKit
set_option maxRecDepth 20000

theorem lit_ownT {w : World} (xs : List UInt8) (cs : Array Value) (hc : cs.toList = bvals xs) (hx : xs.length ≤ 100) : OwnB (w.alloc (.cells cs 5)) w.heap.size (.slice (some ⟨w.heap.size, 0, none⟩) xs.length xs.length) xs :=
  ⟨by rw [bvals_length, Nat.mul_one], Or.inr ⟨w.heap.size, xs.length, cs, rfl, Nat.le_refl _, heap_alloc_new w _, Nat.le_refl _, by unfold maxLen; omega, by rw [← Array.length_toList, hc, bvals_length, Nat.mul_one], by rw [hc, Nat.mul_one, List.take_of_length_le (by rw [bvals_length]; exact Nat.le_refl _)]⟩⟩
theorem be2_cells {n : Nat} (h : n ≤ 65535) : (#[Value.int .u8 ((n : Int) / 256), Value.int .u8 ((n : Int) % 256)]).toList = bvals (be (n : Int) 2) := by
  have e : be (n : Int) 2 = [byteOf (n : Int) 1, byteOf (n : Int) 0] := by unfold be; rfl
  have h1 : ((byteOf (n : Int) 1).toNat : Int) = (n : Int) / 256 := by rw [byteOf_eq]; omega
  have h0 : ((byteOf (n : Int) 0).toNat : Int) = (n : Int) % 256 := by rw [byteOf_eq]; omega
  rw [e]
  unfold bvals
  simp [h1, h0]
theorem be1_cells {n : Nat} (h : n ≤ 255) : (#[Value.int .u8 (n : Int)]).toList = bvals (be (n : Int) 1) := by
  have e : be (n : Int) 1 = [byteOf (n : Int) 0] := by unfold be; rfl
  have h0 : ((byteOf (n : Int) 0).toNat : Int) = (n : Int) := by rw [byteOf_eq]; omega
  rw [e]
  unfold bvals
  simp [h0]
theorem be4_cells {n : Nat} (h : n < 4294967296) : (#[Value.int .u8 ((n : Int) / 16777216), Value.int .u8 ((n : Int) / 65536 % 256), Value.int .u8 ((n : Int) / 256 % 256), Value.int .u8 ((n : Int) % 256)]).toList = bvals (be (n : Int) 4) := by
  have e : be (n : Int) 4 = [byteOf (n : Int) 3, byteOf (n : Int) 2, byteOf (n : Int) 1, byteOf (n : Int) 0] := by unfold be; rfl
  have h3 : ((byteOf (n : Int) 3).toNat : Int) = (n : Int) / 16777216 := by rw [byteOf_eq]; omega
  have h2 : ((byteOf (n : Int) 2).toNat : Int) = (n : Int) / 65536 % 256 := by rw [byteOf_eq]; omega
  have h1 : ((byteOf (n : Int) 1).toNat : Int) = (n : Int) / 256 % 256 := by rw [byteOf_eq]; omega
  have h0 : ((byteOf (n : Int) 0).toNat : Int) = (n : Int) % 256 := by rw [byteOf_eq]; omega
  rw [e]
  unfold bvals
  simp [h3, h2, h1, h0]

set_option maxHeartbeats 1000000 in
theorem summed_any (ao : Option Addr) (c : Nat) (l : List UInt8) (w : World) (hb : BAt w ao l) (hn : ao = none → l = [] ∧ c = 0) (hl : l.length ≤ 140737488351232) :
    Calls Tryz.prog 30 #[.slice ao l.length c] w fun e w' => ∃ v', e = .returned v' ∧ OwnB w' w.heap.size v' (tsum l) ∧ Below w.heap.size w w' := by
  have HS := hide (refSum_any ao c l w hb (by omega))
  have HSr := hide (srcT hb hn)
  obtain ⟨C, hC⟩ : ∃ C, C = sumOf l := ⟨_, rfl⟩
  have hlt : C < 4294967296 := by rw [hC]; exact sumOf_lt l
  rw [← hC] at HS
  have HC := hide hC
  have HON : Hid (OwnB w w.heap.size (.slice none 0 0) []) := hide (World.ownsRow_nil _ _ _ _)
  clear hb hn hC
  go_enter Tryz.func30, Tryz.ntmps30
  go_wp2_with (first | (go_at_call 61; refine (unhide HS).mono ?_; rintro e W ⟨rfl, rfl⟩) | (at_builtin; refine wpList_appendB rfl (.const (.slice none 0 0)) (.tmp 6) rfl W.heap.size (.slice none 0 0) [] rfl (unhide HON) (.slice ao l.length c) l rfl (unhide HSr) ?z6 (Nat.le_refl _) ?_))
  case z6 => simp; omega
  intro v6 w6 hO6 hG6 hF6 hF7
  have HB6 := hide (below_grown hG6 (Nat.le_refl _) (fun k e => by cases e))
  have HO6 := hide hO6
  obtain ⟨a6, c6, hv6, -⟩ := hO6.at
  subst hv6
  have h256 : (C : Int) / 16777216 % 256 = (C : Int) / 16777216 := by omega
  have hal : Below w6.heap.size w6 (w6.alloc (.cells #[.int .u8 ((C : Int) / 16777216), .int .u8 ((C : Int) / 65536 % 256), .int .u8 ((C : Int) / 256 % 256), .int .u8 ((C : Int) % 256)] 5)) := (Below.refl _ _).alloc (Nat.le_refl _) _
  have HL7 : Hid (OwnB (w6.alloc (.cells #[.int .u8 ((C : Int) / 16777216), .int .u8 ((C : Int) / 65536 % 256), .int .u8 ((C : Int) / 256 % 256), .int .u8 ((C : Int) % 256)] 5)) w6.heap.size (.slice (some ⟨w6.heap.size, 0, none⟩) 4 4) (be (C : Int) 4)) := hide (lit_ownT (be (C : Int) 4) _ (be4_cells hlt) (by rw [be_length]; omega))
  have HO7 := hide ((unhide HO6).below hal)
  have HB7 := hide ((unhide HB6).trans (hal.mono (unhide HB6).size))
  clear hal hO6 hG6 hF6 hF7 HO6 HB6
  go_wp2_with (at_builtin; refine wpList_appendB rfl (.tmp 7) (.tmp 23) rfl W.heap.size (.slice a6 l.length c6) l rfl (unhide HO7) (.slice (some ⟨w6.heap.size, 0, none⟩) 4 4) (be (C : Int) 4) rfl (unhide HL7).src ?z7 ?z4 ?_)
  case z7 => rw [be_length]; omega
  try (case z4 => exact (unhide HB7).size)
  intro v8 w8 hO8 hG8 hF8 hF9
  have HB8 := hide ((unhide HB7).grown hG8 (unhide HB7).size (fun q e => (World.ownsRow.lt (unhide HO7) q e).1))
  have HO8 := hide hO8
  clear hO8 hG8 hF8 hF9 HO7 HB7 HL7
  go_wp2
  go_ret
  exact ⟨v8, rfl, by unfold tsum; rw [← unhide HC]; exact unhide HO8, unhide HB8⟩

end Go.Proofs.YtibgfdjopikafaaGreatDoor

/-
  What a frame is read as, plainly; the contracts of talk.wordAt and talk.opened. Conditions: lengths fit.
-/
namespace Go.Proofs.YtibgfdjopikafaaGreatDoor
open Go.RowKit
set_option maxRecDepth 20000
set_option linter.unusedVariables false

theorem wp_scope_ahead {P : Program} {a : Act} {w : World} {Q : Exit → Act → World → Prop} {c rest : Code} (l : Nat) (hf : findLabel c l = some rest)
    (first : c.wp P (Exit.jump l (fun a w => rest.wp P (Exit.noGoto Q) a w) Q) a w) : (Code.scope c).wp P Q a w := by
  refine wp_scope_jumps l (fun a w => rest.wp P (Exit.noGoto Q) a w) (fun _ _ => 0) hf first ?_
  intro a w hJ b k cs
  obtain ⟨e, a', w', hq, harr⟩ := hJ b k cs
  refine ⟨e, a', w', ?_, harr⟩
  cases e <;> first | exact hq | exact hq.elim
theorem jump_retT {l : Nat} {J : Act → World → Prop} {Q : Exit → Act → World → Prop} {a : Act} {w : World} : Exit.jump l J Q .ret a w = Q .ret a w := rfl

theorem bits_o64T (a b : Nat) (ha : a < 65536) (hb : b < 65536) : bits .or .i64 (a : Int) (b : Int) = ((a ||| b : Nat) : Int) := by
  have hlt : a ||| b < 65536 := Nat.or_lt_two_pow (n := 16) ha hb
  have h1 : (BitVec.ofInt 64 (a : Int)).toNat = a := by
    rw [BitVec.ofInt_natCast, BitVec.toNat_ofNat]; exact Nat.mod_eq_of_lt (by omega)
  have h2 : (BitVec.ofInt 64 (b : Int)).toNat = b := by
    rw [BitVec.ofInt_natCast, BitVec.toNat_ofNat]; exact Nat.mod_eq_of_lt (by omega)
  show IntKind.i64.wrap ((BitVec.ofInt 64 (a : Int) ||| BitVec.ofInt 64 (b : Int)).toNat : Int) = _
  rw [BitVec.toNat_or, h1, h2]
  simp [IntKind.wrap, IntKind.bits, IntKind.signed]
  omega
/-- The number of two bytes. -/
def wdT (L : List UInt8) (p : Nat) : Int := at8 L p * 256 + at8 L (p + 1)
theorem or_wordT (L : List UInt8) (p : Nat) : bits .or .i64 (at8 L p * 256) (at8 L (p + 1)) = wdT L p := by
  have h4 := (L.getD p 0).toNat_lt
  have h5 := (L.getD (p + 1) 0).toNat_lt
  have h6 := Nat.two_pow_add_eq_or_of_lt (i := 8) (b := (L.getD (p + 1) 0).toNat) (by omega) (L.getD p 0).toNat
  unfold wdT at8
  rw [show ((L.getD p 0).toNat : Int) * 256 = (((L.getD p 0).toNat * 256 : Nat) : Int) by omega, bits_o64T _ _ (by omega) (by omega), show (L.getD p 0).toNat * 256 = 2 ^ 8 * (L.getD p 0).toNat by omega, ← h6]
  omega
/-- Where Data ends. -/
def opN (l : List UInt8) (hd : Nat) : Nat := hd + (l.getD (hd - 1) 0).toNat
/-- The error of bytes as a frame with that mark and so many bytes ahead of Data. -/
def opE (l : List UInt8) (mk : Int) (hd : Nat) : Int :=
  if l.length = 0 then 2 else if at8 l 0 ≠ mk then 240 else if l.length < hd then 2 else if l.length < opN l hd + 4 then 2 else if opN l hd + 4 < l.length then 3
  else if s32 (beN (l.drop (opN l hd))) ≠ s32 (sumOf (l.take (opN l hd))) then 161 else 0
def opL (l : List UInt8) (mk : Int) (hd : Nat) : List UInt8 := if opE l mk hd = 0 then (l.take (opN l hd)).drop hd else []
theorem BAt.dropT {w : World} {b off : Nat} {L : List UInt8} (h : BAt w (some ⟨b, off, none⟩) L) (k : Nat) : BAt w (some ⟨b, off + k, none⟩) (L.drop k) := by
  intro i hi
  obtain ⟨b', off', e, hc⟩ := h (k + i) (by rw [List.length_drop] at hi; omega)
  injection e with e
  injection e with e1 e2
  subst e1 e2
  refine ⟨_, _, rfl, ?_⟩
  rw [Nat.add_assoc, hc]
  unfold at8
  rw [List.getD_eq_getElem?_getD, List.getD_eq_getElem?_getD, List.getElem?_drop]
theorem BAt.frontT {w : World} {ao : Option Addr} {L : List UInt8} (h : BAt w ao L) (k : Nat) : BAt w ao (L.take k) := by
  intro i hi
  rw [List.length_take] at hi
  obtain ⟨b, off, e, hc⟩ := h i (by omega)
  refine ⟨b, off, e, ?_⟩
  rw [hc]
  unfold at8
  rw [List.getD_eq_getElem?_getD, List.getD_eq_getElem?_getD, List.getElem?_take, if_pos (by omega)]
end Go.Proofs.YtibgfdjopikafaaGreatDoor

/-
  The contracts of talk.Unpack and talk.Heard. Conditions: lengths fit.
-/
namespace Go.Proofs.YtibgfdjopikafaaGreatDoor
open Go.RowKit
set_option maxRecDepth 20000
set_option linter.unusedVariables false

theorem opE_zero {l : List UInt8} {mk : Int} {hd : Nat} (h : opE l mk hd = 0) : at8 l 0 = mk ∧ l.length = opN l hd + 4 ∧ s32 (beN (l.drop (opN l hd))) = s32 (sumOf (l.take (opN l hd))) := by
  unfold opE at h
  by_cases h0 : l.length = 0
  · rw [if_pos h0] at h; omega
  rw [if_neg h0] at h
  by_cases hm : at8 l 0 ≠ mk
  · rw [if_pos hm] at h; omega
  rw [if_neg hm] at h
  by_cases h1 : l.length < hd
  · rw [if_pos h1] at h; omega
  rw [if_neg h1] at h
  by_cases h2 : l.length < opN l hd + 4
  · rw [if_pos h2] at h; omega
  rw [if_neg h2] at h
  by_cases h3 : opN l hd + 4 < l.length
  · rw [if_pos h3] at h; omega
  rw [if_neg h3] at h
  by_cases h4 : s32 (beN (l.drop (opN l hd))) ≠ s32 (sumOf (l.take (opN l hd)))
  · rw [if_pos h4] at h; omega
  exact ⟨Decidable.not_not.1 hm, by omega, Decidable.not_not.1 h4⟩
theorem opN_ge (l : List UInt8) (hd : Nat) : hd ≤ opN l hd := by unfold opN; omega
def unC (l : List UInt8) : Int := if opE l 80 5 = 0 then at8 l 1 else 0
def unN (l : List UInt8) : Int := if opE l 80 5 = 0 then wdT l 2 else 0
def heS (l : List UInt8) : Int := if opE l 112 4 = 0 then wdT l 1 else 0
/-- What Unpack, and Heard, answers. -/
def UnPost (w : World) (code c n : Int) (L : List UInt8) (e : Ending) (w' : World) : Prop := ∃ v, e = .returned (.tuple #[.agg #[.int .i64 c, .int .i64 n, v], .int .i64 code]) ∧ OwnB w' w.heap.size v L ∧ Below w.heap.size w w'
def HePost (w : World) (code s : Int) (L : List UInt8) (e : Ending) (w' : World) : Prop := ∃ v, e = .returned (.tuple #[.agg #[.int .i64 s, v], .int .i64 code]) ∧ OwnB w' w.heap.size v L ∧ Below w.heap.size w w'
theorem results_cell_tmpT {fn : Func} {p u : Tmp} {ty : TypeId} (h : fn.results = #[.cell p ty, .tmp u]) (tmps : Array Value) (P : Program) (w : World) :
    (results fn tmps).run P w = ((asAddr (tmps.getD p undef)).run P w).andThen fun a w₁ => ((loadVar ty a).run P w₁).andThen fun x w₂ => .ok (.tuple #[x, tmps.getD u undef]) w₂ := by
  simp only [results, h]
  simp [Sem.run_bind, Result.andThen]
theorem run_addrT (g : Nat) (w : World) : (asAddr (.pointer (some ⟨g, 0, none⟩))).run Tryz.prog w = .ok ⟨g, 0, none⟩ w := rfl
theorem Bx.chain3 {W : World} {g : Nat} {t : TypeId} {x0 x1 x2 : Value} (h : Bx W g t #[x0, x1, x2]) (y0 y1 y2 : Value) : Bx (((W.setCell ⟨g, 0, none⟩ y0).setCell ⟨g, 1, none⟩ y1).setCell ⟨g, 2, none⟩ y2) g t #[y0, y1, y2] := ((h.set 0 y0 rfl).set 1 y1 rfl).set 2 y2 rfl
theorem Bx.chain2 {W : World} {g : Nat} {t : TypeId} {x0 x1 : Value} (h : Bx W g t #[x0, x1]) (y0 y1 : Value) : Bx ((W.setCell ⟨g, 0, none⟩ y0).setCell ⟨g, 1, none⟩ y1) g t #[y0, y1] := (h.set 0 y0 rfl).set 1 y1 rfl
theorem OwnB.setT {w : World} {B g i : Nat} {v y : Value} {l : List UInt8} (h : OwnB w B v l) (hv : ∀ k, v.ownBlock = some k → k ≠ g) : OwnB (w.setCell ⟨g, i, none⟩ y) B v l := h.keep (kept_setCell w ⟨g, i, none⟩ y) (fun k e e2 => hv k e e2)
theorem OwnB.drewT {w : World} {B n : Nat} {v : Value} {l : List UInt8} (h : OwnB w B v l) : OwnB (w.drewN n) B v l := h
theorem wrap_byteT {x : Int} (h0 : 0 ≤ x) (h1 : x ≤ 255) : IntKind.i64.wrap x = x := by simp [IntKind.wrap, IntKind.bits, IntKind.signed]; omega
end Go.Proofs.YtibgfdjopikafaaGreatDoor

/-
  The contract of the document's framed: the error is that of talk's opened. Conditions: lengths fit.
-/
namespace Go.Proofs.YtibgfdjopikafaaGreatDoor
open Go.RowKit
set_option maxRecDepth 20000
set_option linter.unusedVariables false

theorem s32_inj {a b : Nat} (ha : a < 4294967296) (hb : b < 4294967296) (h : s32 a = s32 b) : a = b := by
  unfold s32 at h
  split at h <;> split at h <;> omega
theorem beN_four (a b c d : UInt8) : beN [a, b, c, d] = ((a.toNat * 256 + b.toNat) * 256 + c.toNat) * 256 + d.toNat := by simp [beN]
theorem be4_list (n : Int) : be n 4 = [byteOf n 3, byteOf n 2, byteOf n 1, byteOf n 0] := by unfold be; rfl
theorem byte_of {n : Int} {j : Nat} {x : UInt8} (h : n / (256 : Int) ^ j % 256 = (x.toNat : Int)) : byteOf n j = x := by
  apply UInt8.toNat_inj.1
  have := byteOf_eq n j
  omega
theorem be_beN (D : List UInt8) (h : D.length = 4) : beN D < 4294967296 ∧ be (beN D : Int) 4 = D := by
  match D, h with
  | [a, b, c, d], _ =>
    have ha := a.toNat_lt
    have hb := b.toNat_lt
    have hc := c.toNat_lt
    have hd := d.toNat_lt
    rw [beN_four, be4_list]
    refine ⟨by omega, ?_⟩
    rw [byte_of (x := a) (by omega), byte_of (x := b) (by omega), byte_of (x := c) (by omega), byte_of (x := d) (by omega)]
theorem beN_be (n : Nat) (h : n < 4294967296) : beN (be (n : Int) 4) = n := by
  rw [be4_list, beN_four]
  have h3 := byteOf_eq (n : Int) 3
  have h2 := byteOf_eq (n : Int) 2
  have h1 := byteOf_eq (n : Int) 1
  have h0 := byteOf_eq (n : Int) 0
  omega
/-- The sum stands behind: in numbers, and in bytes. -/
theorem sum_iff {l : List UInt8} {N : Nat} (h : l.length = N + 4) : s32 (beN (l.drop N)) = s32 (sumOf (l.take N)) ↔ tsum (l.take N) = l := by
  have hD : (l.drop N).length = 4 := by rw [List.length_drop]; omega
  obtain ⟨h1, h2⟩ := be_beN (l.drop N) hD
  constructor
  · intro e
    have := s32_inj h1 (sumOf_lt _) e
    unfold tsum
    rw [← this, h2, List.take_append_drop]
  · intro e
    have h3 : l.drop N = be (sumOf (l.take N) : Int) 4 := by
      have h4 : (l.take N) ++ be (sumOf (l.take N) : Int) 4 = l.take N ++ l.drop N := by rw [List.take_append_drop]; exact e
      exact (List.append_cancel_left h4).symm
    rw [h3, beN_be _ (sumOf_lt _)]
theorem conv_bytesT {w : World} {ao : Option Addr} {l : List UInt8} (h : BAt w ao l) (hn : ao = none → l = []) (c : Nat) : (convert 28 9 (.slice ao l.length c)).run Tryz.prog w = .ok (.string ⟨l.toArray⟩) w := by
  cases ao with
  | some x =>
    refine run_convert_bytes_back w 28 9 5 x c l Tryz.underlying28 Tryz.underlying5 Tryz.underlying9 (fun j hj => ?_)
    obtain ⟨b, off, e, hc⟩ := h j hj
    injection e with e
    subst e
    rw [Addr.add_lit, hc]
    unfold at8
    rw [List.getD_eq_getElem?_getD, List.getElem?_eq_getElem hj]
    rfl
  | none =>
    have := hn rfl
    subst this
    show (convert 28 9 (.slice none 0 c)).run Tryz.prog w = _
    rw [run_convert_bytes_string w 28 9 5 none 0 c Tryz.underlying28 Tryz.underlying5 Tryz.underlying9]
    rfl
theorem summed_conv {w : World} {ao : Option Addr} {c : Nat} {T l : List UInt8} {b off : Nat} (hT : BAt w (some ⟨b, off, none⟩) T) (hl : T.length ≤ 140737488351232) (hb : BAt w ao l) (hn : ao = none → l = []) :
    Calls Tryz.prog 30 #[.slice (some ⟨b, off, none⟩) T.length c] w fun e w' => ∃ va vc, e = .returned (.slice va (tsum T).length vc) ∧ (convert 28 9 (.slice va (tsum T).length vc)).run Tryz.prog w' = .ok (.string ⟨(tsum T).toArray⟩) w' ∧ (convert 28 9 (.slice ao l.length c)).run Tryz.prog w' = .ok (.string ⟨l.toArray⟩) w' ∧ Below w.heap.size w w' := by
  refine (summed_any (some ⟨b, off, none⟩) c T w hT (fun e => by cases e) hl).mono ?_
  rintro e w' ⟨v, rfl, hO, hB⟩
  obtain ⟨va, vc, hv, hva⟩ := hO.at
  refine ⟨va, vc, by rw [hv], conv_bytesT hva (fun e => ?_) vc, conv_bytesT (hb.below' hB) hn c, hB⟩
  subst e
  rcases hO.shape with ⟨_, h⟩ | ⟨g, cap, h, _⟩
  · exact h
  · rw [hv] at h; cases h
theorem mixedT : Tryz.prog.follows .mixedOrders = true := by kernel_rfl
end Go.Proofs.YtibgfdjopikafaaGreatDoor
