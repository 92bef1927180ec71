/-
  The document's writer of a module's file: a name, a counted piece. Conditions: lengths fit.
-/
import Derived.Test.YtibgfdjopikafaaGreatDoorKWe6
import Derived.Test.YtibgfdjopikafaaGreatDoorJTK
import Derived.Lib.AppendStr
namespace Go.Proofs.YtibgfdjopikafaaGreatDoor
open Go.RowKit
set_option maxRecDepth 20000
set_option linter.unusedVariables false

/-- A row of bytes that the document's writer has put together since the world w. -/
structure RO (w W : World) (v : Value) (l : List UInt8) : Prop where
  own : OwnB W w.heap.size v l
  bel : Below w.heap.size w W
theorem RO.below {w W W' : World} {v : Value} {l : List UInt8} (h : RO w W v l) (hb : Below W.heap.size W W') : RO w W' v l :=
  ⟨h.own.below hb, h.bel.trans (hb.mono h.bel.size)⟩
theorem RO.step {w W W' : World} {v v' : Value} {l l' : List UInt8} (h : RO w W v l) (ho : OwnB W' w.heap.size v' l') (hg : W.grownBy W' v.ownBlock) : RO w W' v' l' :=
  ⟨ho, h.bel.grown hg h.bel.size (fun k e => (World.ownsRow.lt h.own k e).1)⟩
theorem wpList_appendS {w : World} {ops : Array Oper} {rest : List Oper} {o : Oper} {a : Act} {Q : Exit → Act → World → Prop} (hgd : o.guard = none) (s x : Operand)
    (ho : o.op = .call { callee := .builtin .append, args := #[s, x], argTypes := #[28, 9] })
    (base : Nat) (v : Value) (l : List UInt8) (hs : a.eval s = v) (hown : OwnB w base v l) (m : ByteArray) (hx : a.eval x = .string m) (hfit : l.length + m.size ≤ 140737488355328) (hbase : base ≤ w.heap.size)
    (h : ∀ v' w', OwnB w' base v' (l ++ m.data.toList) → w.grownBy w' v.ownBlock → wpList Tryz.prog ops Q rest (a.put o.dst v') w') :
    wpList Tryz.prog ops Q (o :: rest) a w := by
  obtain ⟨i0, hi, hz0, hz1, hz2⟩ := info_parts info8
  refine Lib.wpList_append_own_string w hgd s x 28 9 ho base 5 i0 Tryz.underlying28 Tryz.underlying9 hi hz0 hz1 hz2 v l.length (bvals l) hs hown m hx (by unfold maxLen; omega) hfit hbase ?_
  intro v' w' h1 h2 _
  refine h v' w' ?_ h2
  have e1 : (l ++ m.data.toList).length = l.length + m.size := by rw [List.length_append]; simp
  have e2 : bvals l ++ Lib.strCells m = bvals (l ++ m.data.toList) := by
    rw [← bvals_append]; rfl
  unfold OwnB
  rw [e1, ← e2]
  exact h1
/-- What does not hold bytes stays as it is. -/
def TyU (W W' : World) : Prop := ∀ g t cs, Bx W g t cs → t ≠ 5 → Bx W' g t cs
theorem TyU.trans {a b c : World} (h : TyU a b) (k : TyU b c) : TyU a c := fun g t cs hx h1 => k g t cs (h g t cs hx h1) h1
theorem TyU.of_below {w w' : World} (hb : Below w.heap.size w w') : TyU w w' := fun _ _ _ hx _ => hx.below hb
theorem RO.tyS {w W W' : World} {v : Value} {l : List UInt8} (h : RO w W v l) (hg : W.grownBy W' v.ownBlock) : TyU W W' := fun g t cs hx ht => hx.grown hg (fun e => by
  rcases h.own.2 with ⟨rfl, _⟩ | ⟨b, cap, cur, rfl, _, hb, _⟩
  · cases e
  · injection e with e
    subst e
    unfold Bx at hx
    rw [hb] at hx
    injection hx with hx
    injection hx with _ hx
    exact ht hx.symm)
theorem srcB_below {w w' : World} {b : Value} {m : List UInt8} (h : SrcB w b m) (hb : Below w.heap.size w w') : SrcB w' b m := by
  rcases h with h | ⟨x, c, e, h⟩
  · exact Or.inl h
  · exact Or.inr ⟨x, c, e, h.below' hb⟩
theorem lit1 {W : World} {n : Nat} (h : n ≤ 255) : OwnB (W.alloc (.cells #[.int .u8 (n : Int)] 5)) W.heap.size (.slice (some ⟨W.heap.size, 0, none⟩) 1 1) (be (n : Int) 1) := lit_ownT (be (n : Int) 1) _ (be1_cells h) (by rw [be_length]; omega)
theorem lit2 {W : World} {n : Nat} (h : n ≤ 65535) : OwnB (W.alloc (.cells #[.int .u8 ((n : Int) / 256), .int .u8 ((n : Int) % 256)] 5)) W.heap.size (.slice (some ⟨W.heap.size, 0, none⟩) 2 2) (be (n : Int) 2) := lit_ownT (be (n : Int) 2) _ (be2_cells h) (by rw [be_length]; omega)
set_option maxHeartbeats 2000000 in
theorem refn_any {w W : World} {v : Value} {l : List UInt8} (h : RO w W v l) (s : ByteArray) (hs : s.size ≤ 255) (hl : l.length ≤ 1000000000) :
    Calls Tryz.prog 62 #[v, .string s] W fun e W' => ∃ v', e = .returned v' ∧ RO w W' v' (l ++ nb s) ∧ TyU W W' := by
  obtain ⟨a, c, hv, -⟩ := h.own.at
  subst hv
  have hsz : (s.size : Int) % 256 = (s.size : Int) := by omega
  have al : Below W.heap.size W (W.alloc (.cells #[.int .u8 (s.size : Int)] 5)) := (Below.refl _ _).alloc (Nat.le_refl _) _
  have HL := hide (lit1 (W := W) hs)
  have HR := hide (h.below al)
  have HT := hide (TyU.of_below al)
  clear al h
  go_enter Tryz.func62, Tryz.ntmps62
  go_wp2_with (at_builtin; refine wpList_appendB rfl (.tmp 5) (.tmp 9) rfl w.heap.size (.slice a l.length c) l rfl (unhide HR).own (.slice (some ⟨W.heap.size, 0, none⟩) 1 1) (be (s.size : Int) 1) rfl (unhide HL).src ?z6 ?z4 ?_)
  case z6 => rw [be_length]; omega
  case z4 => exact (unhide HR).bel.size
  intro v6 w6 hO6 hG6 hF6 hF7
  have HT6 := hide ((unhide HT).trans ((unhide HR).tyS hG6))
  have HR6 := hide ((unhide HR).step hO6 hG6)
  have hln : (l ++ be (s.size : Int) 1).length ≤ 1000000001 := by rw [List.length_append, be_length]; omega
  obtain ⟨M, HM⟩ : ∃ M, Hid (l ++ be (s.size : Int) 1 = M) := ⟨_, hide rfl⟩
  clear hG6 hF6 hF7 HL HR
  rw [unhide HM] at hO6 HR6 hln
  obtain ⟨a6, c6, hv6, -⟩ := hO6.at
  subst hv6
  clear hO6
  go_wp2_with (at_builtin; refine wpList_appendS rfl (.tmp 11) (.tmp 12) rfl w.heap.size (.slice a6 M.length c6) M rfl (unhide HR6).own s rfl ?z6 ?z4 ?_)
  case z6 => omega
  case z4 => exact (unhide HR6).bel.size
  intro v7 w7 hO7 hG7
  have HT7 := hide ((unhide HT6).trans ((unhide HR6).tyS hG7))
  have HR7 := hide ((unhide HR6).step hO7 hG7)
  clear hO7 hG7 HR6 hln
  go_wp2
  go_ret
  refine ⟨v7, rfl, ?_, unhide HT7⟩
  have e : M ++ s.data.toList = l ++ nb s := by
    rw [← unhide HM, List.append_assoc]
    congr 1
    rw [one_eq (by omega)]; rfl
  rw [← e]; exact unhide HR7
set_option maxHeartbeats 2000000 in
theorem piece_any {w W : World} {v : Value} {l : List UInt8} (h : RO w W v l) (ao : Option Addr) (c0 : Nat) (x : List UInt8) (hs : SrcB w (.slice ao x.length c0) x) (hx : x.length ≤ 65535) (hl : l.length ≤ 1000000000000) :
    Calls Tryz.prog 63 #[v, .slice ao x.length c0] W fun e W' => ∃ v', e = .returned v' ∧ RO w W' v' (l ++ (be (x.length : Int) 2 ++ x)) ∧ TyU W W' := by
  obtain ⟨a, c, hv, -⟩ := h.own.at
  subst hv
  have hq : Int.tdiv (x.length : Int) 256 = (x.length : Int) / 256 := Int.tdiv_eq_ediv_of_nonneg (by omega)
  have hr : Int.tmod (x.length : Int) 256 = (x.length : Int) % 256 := Int.tmod_eq_emod_of_nonneg (by omega)
  have h256 : (x.length : Int) / 256 % 256 = (x.length : Int) / 256 := by omega
  have al : Below W.heap.size W (W.alloc (.cells #[.int .u8 ((x.length : Int) / 256), .int .u8 ((x.length : Int) % 256)] 5)) := (Below.refl _ _).alloc (Nat.le_refl _) _
  have HL := hide (lit2 (W := W) hx)
  have HR := hide (h.below al)
  have HS := hide hs
  have HT := hide (TyU.of_below al)
  clear al h hs
  go_enter Tryz.func63, Tryz.ntmps63
  go_wp2_with (at_builtin; refine wpList_appendB rfl (.tmp 5) (.tmp 14) rfl w.heap.size (.slice a l.length c) l rfl (unhide HR).own (.slice (some ⟨W.heap.size, 0, none⟩) 2 2) (be (x.length : Int) 2) rfl (unhide HL).src ?z6 ?z4 ?_)
  case z6 => rw [be_length]; omega
  case z4 => exact (unhide HR).bel.size
  intro v6 w6 hO6 hG6 hF6 hF7
  have HT6 := hide ((unhide HT).trans ((unhide HR).tyS hG6))
  have HR6 := hide ((unhide HR).step hO6 hG6)
  have hln : (l ++ be (x.length : Int) 2).length ≤ 1000000000002 := by rw [List.length_append, be_length]; omega
  obtain ⟨M, HM⟩ : ∃ M, Hid (l ++ be (x.length : Int) 2 = M) := ⟨_, hide rfl⟩
  clear hG6 hF6 hF7 HL HR
  rw [unhide HM] at hO6 HR6 hln
  obtain ⟨a6, c6, hv6, -⟩ := hO6.at
  subst hv6
  clear hO6
  go_wp2_with (at_builtin; refine wpList_appendB rfl (.tmp 16) (.tmp 17) rfl w.heap.size (.slice a6 M.length c6) M rfl (unhide HR6).own (.slice ao x.length c0) x rfl (srcB_below (unhide HS) (unhide HR6).bel) ?z6 ?z4 ?_)
  case z6 => omega
  case z4 => exact (unhide HR6).bel.size
  intro v7 w7 hO7 hG7 hF7 hF8
  have HT7 := hide ((unhide HT6).trans ((unhide HR6).tyS hG7))
  have HR7 := hide ((unhide HR6).step hO7 hG7)
  clear hO7 hG7 HR6 hln hF7 hF8
  go_wp2
  go_ret
  refine ⟨v7, rfl, ?_, unhide HT7⟩
  rw [← List.append_assoc, unhide HM]; exact unhide HR7
end Go.Proofs.YtibgfdjopikafaaGreatDoor
