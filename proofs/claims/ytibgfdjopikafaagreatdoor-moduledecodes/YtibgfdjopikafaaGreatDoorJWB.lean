/-
  Texts of contracts and plain lemmas, one behind another; each says at its head what it holds.
-/
import Derived.Test.YtibgfdjopikafaaGreatDoorJWA
import Derived.Test.YtibgfdjopikafaaGreatDoorJFT
import Derived.Test.YtibgfdjopikafaaGreatDoorJTK
import Derived.Lib.AppendStr
/-
  module.Encode: a module's file, or why it has none. Conditions: the table of words and errors.errorType are laid; the module's rows fit.
-/
namespace Go.Proofs.YtibgfdjopikafaaGreatDoor
open Go.RowKit
set_option maxRecDepth 20000
set_option linter.unusedVariables false

theorem ent_enc1 : EntersF 25 := fun args W => by kernel_rfl
theorem IsWriter.setBox {W : World} {p : Nat} {v : Value} {l : List UInt8} (hi : IsWriter W p v l) {g : Nat} {t : TypeId} {cs : Array Value} (hx : Bx W g t cs) (h1 : t ≠ 89) (h2 : t ≠ 5) (i : Nat) (u : Value) : IsWriter (W.setCell ⟨g, i, none⟩ u) p v l := by
  refine hi.keep (kept_setCell W ⟨g, i, none⟩ u) (fun k e (e2 : k = g) => ?_)
  subst e2
  rcases e with rfl | e
  · have h3 := hi.row
    unfold Bx at hx
    rw [hx] at h3
    injection h3 with h3
    injection h3 with _ h3
    exact h1 h3
  · rcases hi.own.2 with ⟨rfl, _⟩ | ⟨g', cap, cur, rfl, _, hh, _⟩
    · cases e
    · have e' : g' = k := by injection e
      subst e'
      unfold Bx at hx
      rw [hx] at hh
      injection hh with hh
      injection hh with _ hh
      exact h2 hh
theorem flt_ne (a er : Int) (W : World) : (binOp BinOp.neq 61 (fltV a er) .nilIface).run Tryz.prog W = .ok (.bool true) W := by kernel_rfl
theorem ckG_mdW {W : World} {m : Md} (hm : MdOk W m) (h : CkG m) (hn : ∀ x ∈ m.C, x.ca = none → x.cc = 0) : MdW W m :=
  ⟨hm, ck_v hm h, fun f hf => by
    obtain ⟨i, hi, rfl⟩ := List.mem_iff_getElem.1 hf
    exact (fnE_zero (h.fns i _ (List.getElem?_eq_getElem hi))).2.2.2.2.1, hn⟩
theorem file_eq {m : Md} (hv : McV (mcOf m)) : tsum (magB ++ mdW m) = fileB (mcOf m) := by rw [mdW_eq hv]; rfl
/-- What Encode answers: the bytes and the error. -/
def EncR (m : Md) (L : List UInt8) (er : Int) : Prop :=
  ((∃ n, CkR m n er) ∧ er ≠ 0 ∧ L = []) ∨ (CkR m 0 0 ∧ 1048576 < (fileB (mcOf m)).length ∧ er = 4 ∧ L = []) ∨ (CkR m 0 0 ∧ (fileB (mcOf m)).length ≤ 1048576 ∧ er = 0 ∧ L = fileB (mcOf m))
set_option maxHeartbeats 4000000 in
theorem enc1_any {w0 w : World} {p : Nat} {v : Value} (h : WS w0.heap.size w0 w p v []) (m : Md) (hm : MdW w0 m) (gw gm : Nat) (hw : Bx w gw 59 #[.pointer (some ⟨p, 0, none⟩)]) (hx : Bx w gm 26 #[.string m.nm, .slice m.ao m.T.length m.cap, .slice m.fo m.F.length m.fc, .slice m.co m.C.length m.cc]) :
    Calls Tryz.prog 25 #[.pointer (some ⟨gw, 0, none⟩), .pointer (some ⟨gm, 0, none⟩)] w (MPo w0.heap.size w0 w p v (tsum (magB ++ mdW m))) := by
  have k0 := hw.c 0 rfl
  have m0 := hx.c 0 rfl
  have m1 := hx.c 1 rfl
  have m2 := hx.c 2 rfl
  have m3 := hx.c 3 rfl
  have HC := hide (wfile h m hm)
  clear h hm hw hx
  go_enter Tryz.func25, Tryz.ntmps25
  go_wp2_with fail
  refine (unhide HC).mono ?_
  rintro e W1 (⟨hl, rfl, v1, hw1, hk1⟩ | ⟨hF, ⟨n7, rfl⟩, hbF, htF⟩)
  rotate_left
  · exact ⟨rfl, Or.inr ⟨hF, ⟨n7, rfl⟩, hbF, htF⟩⟩
  clear HC
  have HW := hide hw1
  have HK := hide hk1
  clear hw1 hk1
  go_wp2
  go_end0
  exact Or.inl ⟨hl, rfl, v1, unhide HW, unhide HK⟩
set_option maxHeartbeats 8000000 in
theorem Encode16_any (m : Md) (w : World) (h : MdOk w m) (hcap : m.T.length ≤ m.cap) (hfc : m.F.length ≤ m.fc) (hW : WordsAt w) (hE : ErrAt w) (hn : ∀ x ∈ m.C, x.ca = none → x.cc = 0) :
    Calls Tryz.prog 10 #[.agg #[.string m.nm, .slice m.ao m.T.length m.cap, .slice m.fo m.F.length m.fc, .slice m.co m.C.length m.cc]] w fun e w' => ∃ vb L er, e = .returned (.tuple #[vb, .int .i64 er]) ∧ OwnB w' w.heap.size vb L ∧ EncR m L er ∧ Below w.heap.size w w' := by
  have al := (Below.refl w.heap.size w).alloc (Nat.le_refl _) (.cells #[.string m.nm, .slice m.ao m.T.length m.cap, .slice m.fo m.F.length m.fc, .slice m.co m.C.length m.cc] 26)
  have HB := hide al
  have HX : Hid (Bx (w.alloc (.cells #[.string m.nm, .slice m.ao m.T.length m.cap, .slice m.fo m.F.length m.fc, .slice m.co m.C.length m.cc] 26)) w.heap.size 26 #[.string m.nm, .slice m.ao m.T.length m.cap, .slice m.fo m.F.length m.fc, .slice m.co m.C.length m.cc]) := hide (heap_alloc_new w _)
  have H := hide (h.below al)
  have HWD := hide (hW.below al)
  have HE := hide (hE.below al)
  have HN := hide hn
  clear al h hW hE hn
  go_enter Tryz.func10, Tryz.ntmps10
  go_upto_region 1 with fail
  generalize (w.alloc (.cells #[.string m.nm, .slice m.ao m.T.length m.cap, .slice m.fo m.F.length m.fc, .slice m.co m.C.length m.cc] 26)) = W1 at HB HX H HWD HE ⊢
  generalize hg : w.heap.size = g at HX ⊢
  have HG : Hid (w.heap.size = g) := hide hg
  clear hg
  have m0 := (unhide HX).c 0 rfl
  have m1 := (unhide HX).c 1 rfl
  have m2 := (unhide HX).c 2 rfl
  have m3 := (unhide HX).c 3 rfl
  have HC := hide (Check16_any m W1 (unhide H) hcap hfc (unhide HWD))
  go_wp2_with fail
  refine (unhide HC).mono ?_
  rintro e W2 ⟨⟨n, er, rfl, hck⟩, hb⟩
  have HCK := hide hck
  have HB2 := hide ((unhide HB).trans (hb.mono (unhide HB).size))
  have HX2 := hide ((unhide HX).below hb)
  have H2 := hide ((unhide H).below hb)
  have HE2 := hide ((unhide HE).below hb)
  clear HC hck hb m0 m1 m2 m3 HB HX H HWD HE
  by_cases h0 : er = 0
  rotate_left
  · have t0 : (er != 0) = true := bne_t h0
    have HR : Hid (EncR m [] er) := hide (Or.inl ⟨⟨n, unhide HCK⟩, h0, rfl⟩)
    clear h0
    go_wp2
    go_ret2
    exact ⟨.slice none 0 0, [], er, rfl, World.ownsRow_nil _ _ _ _, unhide HR, unhide HB2⟩
  obtain ⟨hgd, hn0⟩ := ck_good (by rw [h0] at HCK; exact unhide HCK)
  have HCZ : Hid (CkR m 0 0) := hide (by have := unhide HCK; rw [h0, hn0] at this; exact this)
  have HMW := hide (ckG_mdW (unhide H2) hgd (unhide HN))
  rw [h0]
  clear HCK hgd hn0 h0
  have HNW := hide (New_any W2)
  go_wp2_with fail
  refine (unhide HNW).mono ?_
  rintro e W3 ⟨rfl, hi3, hb3⟩
  have HS3 : Hid (WS W2.heap.size W2 W3 W2.heap.size (.slice none 0 0) []) := hide ⟨hi3, Nat.le_refl _, (fun k e => by cases e), hb3⟩
  have HX3 := hide ((unhide HX2).below hb3)
  have HE3 := hide ((unhide HE2).below hb3)
  clear HNW hi3 hb3
  go_upto_region 5 with fail
  have al : Below W3.heap.size W3 (W3.alloc (.cells #[.pointer (some ⟨W2.heap.size, 0, none⟩)] 59)) := (Below.refl _ _).alloc (Nat.le_refl _) _
  have HS4 := hide ((unhide HS3).below al)
  have HX4 := hide ((unhide HX3).below al)
  have HE4 := hide ((unhide HE3).below al)
  have HV4 : Hid (Bx (W3.alloc (.cells #[.pointer (some ⟨W2.heap.size, 0, none⟩)] 59)) W3.heap.size 59 #[.pointer (some ⟨W2.heap.size, 0, none⟩)]) := hide (heap_alloc_new W3 _)
  clear al HS3 HX3 HE3
  generalize W3.alloc (.cells #[.pointer (some ⟨W2.heap.size, 0, none⟩)] 59) = W4 at HS4 HX4 HE4 HV4 ⊢
  generalize W3.heap.size = gw at HV4 ⊢
  have alE : Below W4.heap.size W4 (W4.alloc (.cells #[.nilIface] 61)) := (Below.refl _ _).alloc (Nat.le_refl _) _
  have HQB : Hid (Bx (W4.alloc (.cells #[.nilIface] 61)) W4.heap.size 61 #[.nilIface]) := hide (heap_alloc_new W4 _)
  have HI4 := hide ((unhide HS4).below alE).is
  have hc := enc1_any ((unhide HS4).below alE) m (unhide HMW) gw g ((unhide HV4).below alE) ((unhide HX4).below alE)
  have HCA := hide (Catch_any 25 #[.pointer (some ⟨gw, 0, none⟩), .pointer (some ⟨g, 0, none⟩)] W4 _ ent_enc1 hc (fun e W hq => by
    rcases hq with ⟨_, rfl, v', hws, hwk⟩ | ⟨_, ⟨n7, rfl⟩, hbF, htF⟩
    · exact ⟨Or.inl rfl, hwk.bx (unhide HI4) (unhide HQB) (by decide) (by decide), (unhide HE2).below hws.bel⟩
    · exact ⟨Or.inr ⟨n7, 7, rfl⟩, htF _ _ _ (unhide HQB) (by decide) (by decide), (unhide HE2).below hbF⟩))
  have HVE := hide ((unhide HV4).below alE)
  have hgw := (unhide HV4).lt
  clear hc alE
  go_wp2_with fail
  refine (unhide HCA).mono ?_
  rintro e W5 ⟨e0, W, hq, hbe, ⟨rfl, rfl, hw5⟩ | ⟨a, er7, rfl, rfl, hb5⟩⟩
  · rcases hq with ⟨hl, _, v', hws, hwk⟩ | ⟨_, ⟨n7, hh⟩, _⟩
    rotate_left
    · cases hh
    have HI5 : Hid (IsWriter W5 W2.heap.size v' (tsum (magB ++ mdW m))) := hide (by rw [hw5]; exact hws.is.setBox hbe (by decide) (by decide) 0 .nilIface)
    have HV5 : Hid (Bx W5 gw 59 #[.pointer (some ⟨W2.heap.size, 0, none⟩)]) := hide (by rw [hw5]; exact (hwk.bx (unhide HI4) (unhide HVE) (by decide) (by decide)).other ⟨W4.heap.size, 0, none⟩ .nilIface (Nat.ne_of_lt hgw))
    have HB5 : Hid (Below W2.heap.size W2 W5) := hide (by rw [hw5]; exact hws.bel.setCell (p := ⟨W4.heap.size, 0, none⟩) (by have := (unhide HS4).lt; exact this) _)
    have HL : Hid ((fileB (mcOf m)).length ≤ 1048576) := hide (by rw [← file_eq (unhide HMW).v]; exact hl)
    clear hl hws hwk hw5 hbe HCA HS4 HX4 HE4 HV4 HQB HI4 HVE hgw
    have k0 := (unhide HV5).c 0 rfl
    have HBY := hide (Bytes_any (unhide HI5))
    go_wp2_with fail
    refine (unhide HBY).mono ?_
    rintro e W6 ⟨rfl, ho, hb6⟩
    have HO := hide ho
    have HB6 := hide ((unhide HB5).trans (hb6.mono (unhide HB5).size))
    have hl6 := (unhide HB5).size
    clear ho hb6 HBY k0
    go_wp2
    go_ret2
    refine ⟨_, tsum (magB ++ mdW m), 0, rfl, (unhide HO).mono (by have := (unhide HB2).size; omega), Or.inr (Or.inr ⟨unhide HCZ, unhide HL, rfl, file_eq (unhide HMW).v⟩), (unhide HB2).trans ((unhide HB6).mono (unhide HB2).size)⟩
  · rcases hq with ⟨_, hh, _⟩ | ⟨hl, ⟨n7, _⟩, hbF, _⟩
    · cases hh
    have HB5 : Hid (Below W2.heap.size W2 W5) := hide (hbF.trans (hb5.mono (by have := (unhide HS4).lt; exact this)))
    have HL : Hid (1048576 < (fileB (mcOf m)).length) := hide (by rw [← file_eq (unhide HMW).v]; exact hl)
    have hne := flt_ne a er7
    unfold fltV at hne ⊢
    clear hl hbF hb5 hbe HCA HS4 HX4 HE4 HV4 HQB HI4 HVE hgw
    go_wp2
    go_ret2
    exact ⟨.slice none 0 0, [], 4, rfl, World.ownsRow_nil _ _ _ _, Or.inr (Or.inl ⟨unhide HCZ, unhide HL, rfl, rfl⟩), (unhide HB2).trans ((unhide HB5).mono (unhide HB2).size)⟩
end Go.Proofs.YtibgfdjopikafaaGreatDoor

/-
  The document's writer of a module's file: a name, a counted piece. Conditions: lengths fit.
-/
namespace Go.Proofs.YtibgfdjopikafaaGreatDoor
open Go.RowKit
set_option maxRecDepth 20000
set_option linter.unusedVariables false

/-- A row of bytes that the document's writer has put together since the world w. -/
structure RO (w W : World) (v : Value) (l : List UInt8) : Prop where
  own : OwnB W w.heap.size v l
  bel : Below w.heap.size w W
theorem RO.below {w W W' : World} {v : Value} {l : List UInt8} (h : RO w W v l) (hb : Below W.heap.size W W') : RO w W' v l :=
  ⟨h.own.below hb, h.bel.trans (hb.mono h.bel.size)⟩
theorem RO.step {w W W' : World} {v v' : Value} {l l' : List UInt8} (h : RO w W v l) (ho : OwnB W' w.heap.size v' l') (hg : W.grownBy W' v.ownBlock) : RO w W' v' l' :=
  ⟨ho, h.bel.grown hg h.bel.size (fun k e => (World.ownsRow.lt h.own k e).1)⟩
theorem wpList_appendS {w : World} {ops : Array Oper} {rest : List Oper} {o : Oper} {a : Act} {Q : Exit → Act → World → Prop} (hgd : o.guard = none) (s x : Operand)
    (ho : o.op = .call { callee := .builtin .append, args := #[s, x], argTypes := #[28, 9] })
    (base : Nat) (v : Value) (l : List UInt8) (hs : a.eval s = v) (hown : OwnB w base v l) (m : ByteArray) (hx : a.eval x = .string m) (hfit : l.length + m.size ≤ 140737488355328) (hbase : base ≤ w.heap.size)
    (h : ∀ v' w', OwnB w' base v' (l ++ m.data.toList) → w.grownBy w' v.ownBlock → wpList Tryz.prog ops Q rest (a.put o.dst v') w') :
    wpList Tryz.prog ops Q (o :: rest) a w := by
  obtain ⟨i0, hi, hz0, hz1, hz2⟩ := info_parts info8
  refine Lib.wpList_append_own_string w hgd s x 28 9 ho base 5 i0 Tryz.underlying28 Tryz.underlying9 hi hz0 hz1 hz2 v l.length (bvals l) hs hown m hx (by unfold maxLen; omega) hfit hbase ?_
  intro v' w' h1 h2 _
  refine h v' w' ?_ h2
  have e1 : (l ++ m.data.toList).length = l.length + m.size := by rw [List.length_append]; simp
  have e2 : bvals l ++ Lib.strCells m = bvals (l ++ m.data.toList) := by
    rw [← bvals_append]; rfl
  unfold OwnB
  rw [e1, ← e2]
  exact h1
/-- What does not hold bytes stays as it is. -/
def TyU (W W' : World) : Prop := ∀ g t cs, Bx W g t cs → t ≠ 5 → Bx W' g t cs
theorem TyU.trans {a b c : World} (h : TyU a b) (k : TyU b c) : TyU a c := fun g t cs hx h1 => k g t cs (h g t cs hx h1) h1
theorem TyU.of_below {w w' : World} (hb : Below w.heap.size w w') : TyU w w' := fun _ _ _ hx _ => hx.below hb
theorem RO.tyS {w W W' : World} {v : Value} {l : List UInt8} (h : RO w W v l) (hg : W.grownBy W' v.ownBlock) : TyU W W' := fun g t cs hx ht => hx.grown hg (fun e => by
  rcases h.own.2 with ⟨rfl, _⟩ | ⟨b, cap, cur, rfl, _, hb, _⟩
  · cases e
  · injection e with e
    subst e
    unfold Bx at hx
    rw [hb] at hx
    injection hx with hx
    injection hx with _ hx
    exact ht hx.symm)
theorem srcB_below {w w' : World} {b : Value} {m : List UInt8} (h : SrcB w b m) (hb : Below w.heap.size w w') : SrcB w' b m := by
  rcases h with h | ⟨x, c, e, h⟩
  · exact Or.inl h
  · exact Or.inr ⟨x, c, e, h.below' hb⟩
theorem lit1 {W : World} {n : Nat} (h : n ≤ 255) : OwnB (W.alloc (.cells #[.int .u8 (n : Int)] 5)) W.heap.size (.slice (some ⟨W.heap.size, 0, none⟩) 1 1) (be (n : Int) 1) := lit_ownT (be (n : Int) 1) _ (be1_cells h) (by rw [be_length]; omega)
theorem lit2 {W : World} {n : Nat} (h : n ≤ 65535) : OwnB (W.alloc (.cells #[.int .u8 ((n : Int) / 256), .int .u8 ((n : Int) % 256)] 5)) W.heap.size (.slice (some ⟨W.heap.size, 0, none⟩) 2 2) (be (n : Int) 2) := lit_ownT (be (n : Int) 2) _ (be2_cells h) (by rw [be_length]; omega)
set_option maxHeartbeats 2000000 in
theorem refn_any {w W : World} {v : Value} {l : List UInt8} (h : RO w W v l) (s : ByteArray) (hs : s.size ≤ 255) (hl : l.length ≤ 1000000000) :
    Calls Tryz.prog 62 #[v, .string s] W fun e W' => ∃ v', e = .returned v' ∧ RO w W' v' (l ++ nb s) ∧ TyU W W' := by
  obtain ⟨a, c, hv, -⟩ := h.own.at
  subst hv
  have hsz : (s.size : Int) % 256 = (s.size : Int) := by omega
  have al : Below W.heap.size W (W.alloc (.cells #[.int .u8 (s.size : Int)] 5)) := (Below.refl _ _).alloc (Nat.le_refl _) _
  have HL := hide (lit1 (W := W) hs)
  have HR := hide (h.below al)
  have HT := hide (TyU.of_below al)
  clear al h
  go_enter Tryz.func62, Tryz.ntmps62
  go_wp2_with (at_builtin; refine wpList_appendB rfl (.tmp 5) (.tmp 9) rfl w.heap.size (.slice a l.length c) l rfl (unhide HR).own (.slice (some ⟨W.heap.size, 0, none⟩) 1 1) (be (s.size : Int) 1) rfl (unhide HL).src ?z6 ?z4 ?_)
  case z6 => rw [be_length]; omega
  case z4 => exact (unhide HR).bel.size
  intro v6 w6 hO6 hG6 hF6 hF7
  have HT6 := hide ((unhide HT).trans ((unhide HR).tyS hG6))
  have HR6 := hide ((unhide HR).step hO6 hG6)
  have hln : (l ++ be (s.size : Int) 1).length ≤ 1000000001 := by rw [List.length_append, be_length]; omega
  obtain ⟨M, HM⟩ : ∃ M, Hid (l ++ be (s.size : Int) 1 = M) := ⟨_, hide rfl⟩
  clear hG6 hF6 hF7 HL HR
  rw [unhide HM] at hO6 HR6 hln
  obtain ⟨a6, c6, hv6, -⟩ := hO6.at
  subst hv6
  clear hO6
  go_wp2_with (at_builtin; refine wpList_appendS rfl (.tmp 11) (.tmp 12) rfl w.heap.size (.slice a6 M.length c6) M rfl (unhide HR6).own s rfl ?z6 ?z4 ?_)
  case z6 => omega
  case z4 => exact (unhide HR6).bel.size
  intro v7 w7 hO7 hG7
  have HT7 := hide ((unhide HT6).trans ((unhide HR6).tyS hG7))
  have HR7 := hide ((unhide HR6).step hO7 hG7)
  clear hO7 hG7 HR6 hln
  go_wp2
  go_ret
  refine ⟨v7, rfl, ?_, unhide HT7⟩
  have e : M ++ s.data.toList = l ++ nb s := by
    rw [← unhide HM, List.append_assoc]
    congr 1
    rw [one_eq (by omega)]; rfl
  rw [← e]; exact unhide HR7
set_option maxHeartbeats 2000000 in
theorem piece_any {w W : World} {v : Value} {l : List UInt8} (h : RO w W v l) (ao : Option Addr) (c0 : Nat) (x : List UInt8) (hs : SrcB w (.slice ao x.length c0) x) (hx : x.length ≤ 65535) (hl : l.length ≤ 1000000000000) :
    Calls Tryz.prog 63 #[v, .slice ao x.length c0] W fun e W' => ∃ v', e = .returned v' ∧ RO w W' v' (l ++ (be (x.length : Int) 2 ++ x)) ∧ TyU W W' := by
  obtain ⟨a, c, hv, -⟩ := h.own.at
  subst hv
  have hq : Int.tdiv (x.length : Int) 256 = (x.length : Int) / 256 := Int.tdiv_eq_ediv_of_nonneg (by omega)
  have hr : Int.tmod (x.length : Int) 256 = (x.length : Int) % 256 := Int.tmod_eq_emod_of_nonneg (by omega)
  have h256 : (x.length : Int) / 256 % 256 = (x.length : Int) / 256 := by omega
  have al : Below W.heap.size W (W.alloc (.cells #[.int .u8 ((x.length : Int) / 256), .int .u8 ((x.length : Int) % 256)] 5)) := (Below.refl _ _).alloc (Nat.le_refl _) _
  have HL := hide (lit2 (W := W) hx)
  have HR := hide (h.below al)
  have HS := hide hs
  have HT := hide (TyU.of_below al)
  clear al h hs
  go_enter Tryz.func63, Tryz.ntmps63
  go_wp2_with (at_builtin; refine wpList_appendB rfl (.tmp 5) (.tmp 14) rfl w.heap.size (.slice a l.length c) l rfl (unhide HR).own (.slice (some ⟨W.heap.size, 0, none⟩) 2 2) (be (x.length : Int) 2) rfl (unhide HL).src ?z6 ?z4 ?_)
  case z6 => rw [be_length]; omega
  case z4 => exact (unhide HR).bel.size
  intro v6 w6 hO6 hG6 hF6 hF7
  have HT6 := hide ((unhide HT).trans ((unhide HR).tyS hG6))
  have HR6 := hide ((unhide HR).step hO6 hG6)
  have hln : (l ++ be (x.length : Int) 2).length ≤ 1000000000002 := by rw [List.length_append, be_length]; omega
  obtain ⟨M, HM⟩ : ∃ M, Hid (l ++ be (x.length : Int) 2 = M) := ⟨_, hide rfl⟩
  clear hG6 hF6 hF7 HL HR
  rw [unhide HM] at hO6 HR6 hln
  obtain ⟨a6, c6, hv6, -⟩ := hO6.at
  subst hv6
  clear hO6
  go_wp2_with (at_builtin; refine wpList_appendB rfl (.tmp 16) (.tmp 17) rfl w.heap.size (.slice a6 M.length c6) M rfl (unhide HR6).own (.slice ao x.length c0) x rfl (srcB_below (unhide HS) (unhide HR6).bel) ?z6 ?z4 ?_)
  case z6 => omega
  case z4 => exact (unhide HR6).bel.size
  intro v7 w7 hO7 hG7 hF7 hF8
  have HT7 := hide ((unhide HT6).trans ((unhide HR6).tyS hG7))
  have HR7 := hide ((unhide HR6).step hO7 hG7)
  clear hO7 hG7 HR6 hln hF7 hF8
  go_wp2
  go_ret
  refine ⟨v7, rfl, ?_, unhide HT7⟩
  rw [← List.append_assoc, unhide HM]; exact unhide HR7
end Go.Proofs.YtibgfdjopikafaaGreatDoor

/-
  The document's Body of a module's file. Conditions: the module may be.
-/
namespace Go.Proofs.YtibgfdjopikafaaGreatDoor
open Go.RowKit
set_option maxRecDepth 20000
set_option linter.unusedVariables false
set_option linter.unusedSimpArgs false

theorem pre {A L R : List UInt8} (h : L.length ≤ 1000000000) (e : L = A ++ R) : A.length ≤ 1000000000 := by rw [e, List.length_append] at h; omega
theorem flat_len {α : Type} {l : List α} {f : α → List UInt8} {c : Nat} (h : ∀ x ∈ l, (f x).length ≤ c) : (l.flatMap f).length ≤ l.length * c := by
  induction l with
  | nil => simp
  | cons a l ih =>
    have h1 := ih (fun x hx => h x (List.mem_cons_of_mem _ hx))
    have h2 := h a List.mem_cons_self
    rw [List.flatMap_cons, List.length_append, List.length_cons, Nat.succ_mul]
    omega
theorem nb_len {s : ByteArray} (h : nameB s = true) : (nb s).length ≤ 25 := by
  have := name_size h
  unfold nb
  simp
  omega
theorem lit11 {W : World} {a b : Nat} (ha : a ≤ 255) (hb : b ≤ 255) : OwnB (W.alloc (.cells #[.int .u8 (a : Int), .int .u8 (b : Int)] 5)) W.heap.size (.slice (some ⟨W.heap.size, 0, none⟩) 2 2) (be (a : Int) 1 ++ be (b : Int) 1) := by
  have e : (#[Value.int .u8 (a : Int), .int .u8 (b : Int)]).toList = bvals (be (a : Int) 1 ++ be (b : Int) 1) := by
    rw [← bvals_append, ← be1_cells ha, ← be1_cells hb]; rfl
  have := lit_ownT (w := W) (be (a : Int) 1 ++ be (b : Int) 1) _ e (by simp [be_length])
  rw [List.length_append, be_length, be_length] at this
  exact this
theorem RO.to {w w1 W : World} {v : Value} {l : List UInt8} (h : RO w1 W v l) (hb : Below w.heap.size w w1) : RO w W v l :=
  ⟨h.own.mono hb.size, hb.trans (h.bel.mono hb.size)⟩
theorem md_len {m : Md} (hv : McV (mcOf m)) : (magB ++ mdW m).length ≤ 1000000000 := by
  obtain ⟨h1, h2, h3, h4, h5, h6, h7⟩ := hv
  have h2 : m.T.length ≤ 32 := by simpa [mcOf] using h2
  have h4 : m.F.length ≤ 64 := by simpa [mcOf] using h4
  have hC : m.C.length ≤ 64 := by
    rcases h6 with h6 | ⟨h6, _⟩
    · have : m.C = [] := by simpa [mcOf] using h6
      rw [this]; simp
    · have : m.C.length = m.F.length := by simpa [mcOf] using h6
      omega
  have hT : (m.T.flatMap clE).length ≤ m.T.length * 1000 := flat_len (fun x hx => by
    obtain ⟨q1, _, q3, q4⟩ := h3 (clC x) (List.mem_map_of_mem hx)
    have q3 : x.fs.length ≤ 32 := by have q3 : (x.fs.map flC).length ≤ 32 := q3; rwa [List.length_map] at q3
    have q1 := nb_len (nameB_of q1)
    have q5 : (x.fs.flatMap flE).length ≤ x.fs.length * 26 := flat_len (fun f hf => by
      have := nb_len (nameB_of (q4 (flC f) (List.mem_map_of_mem hf)).1)
      unfold flE
      rw [List.length_append, be_length]
      have e : (flC f).1 = f.nm.toList := rfl
      omega)
    unfold clE
    simp only [List.length_append, be_length]
    omega)
  have hF : (m.F.flatMap fnW).length ≤ m.F.length * 66000 := flat_len (fun x hx => by
    obtain ⟨q1, q2, _, _, _, q6⟩ := h5 (fnC x) (List.mem_map_of_mem hx)
    have q2 : x.sg.ps.length ≤ 8 := q2
    have q6 : x.cd.length < 65536 := q6
    have q1 := nb_len (nameB_of q1)
    have q5 : (x.sg.ps.flatMap (fun (t : Nat) => be (t : Int) 1)).length ≤ x.sg.ps.length * 1 := flat_len (fun f hf => by rw [be_length]; omega)
    unfold fnW
    simp only [List.length_append, be_length]
    omega)
  have hCC : (m.C.flatMap ctOne).length ≤ m.C.length * 66000 := flat_len (fun x hx => by
    have q6 : x.cd.length < 65536 := h7 (bsC x) (List.mem_map_of_mem hx)
    unfold ctOne
    simp only [List.length_append, be_length]
    omega)
  have hN := nb_len (nameB_of h1)
  have hct : (ctW m.C).length ≤ 1 + m.C.length * 66000 := by
    unfold ctW
    split
    · rw [be_length]; omega
    · rw [List.length_append, be_length]; omega
  unfold mdW
  simp only [List.length_append, be_length]
  have : magB.length = 4 := rfl
  have e : (mcOf m).nm = m.nm.toList := rfl
  omega
set_option maxHeartbeats 16000000 in
theorem refBody_any (m : Md) (w : World) (hm : MdW w m) :
    Calls Tryz.prog 31 #[.agg #[.string m.nm, .slice m.ao m.T.length m.cap, .slice m.fo m.F.length m.fc, .slice m.co m.C.length m.cc]] w fun e W => ∃ v, e = .returned v ∧ RO w W v (magB ++ mdW m) := by
  obtain ⟨nm, ao, cap, T, fo, fc, F, co, cc, C⟩ := m
  have HLB := hide (md_len hm.v)
  have al : Below w.heap.size w (w.alloc (.cells #[.string nm, .slice ao T.length cap, .slice fo F.length fc, .slice co C.length cc] 26)) := (Below.refl _ _).alloc (Nat.le_refl _) _
  have HX1 : Hid (Bx (w.alloc (.cells #[.string nm, .slice ao T.length cap, .slice fo F.length fc, .slice co C.length cc] 26)) w.heap.size 26 #[.string nm, .slice ao T.length cap, .slice fo F.length fc, .slice co C.length cc]) := hide (heap_alloc_new w _)
  have al3 : Below (w.alloc (.cells #[.string nm, .slice ao T.length cap, .slice fo F.length fc, .slice co C.length cc] 26)).heap.size (w.alloc (.cells #[.string nm, .slice ao T.length cap, .slice fo F.length fc, .slice co C.length cc] 26)) ((w.alloc (.cells #[.string nm, .slice ao T.length cap, .slice fo F.length fc, .slice co C.length cc] 26)).alloc (.cells #[.int .u8 112, .int .u8 118, .int .u8 109, .int .u8 1] 5)) := (Below.refl _ _).alloc (Nat.le_refl _) _
  have HR3 : Hid (RO (w.alloc (.cells #[.string nm, .slice ao T.length cap, .slice fo F.length fc, .slice co C.length cc] 26)) ((w.alloc (.cells #[.string nm, .slice ao T.length cap, .slice fo F.length fc, .slice co C.length cc] 26)).alloc (.cells #[.int .u8 112, .int .u8 118, .int .u8 109, .int .u8 1] 5)) (.slice (some ⟨w.heap.size + 1, 0, none⟩) 4 4) magB) := hide ⟨by have := lit_ownT (w := w.alloc (.cells #[.string nm, .slice ao T.length cap, .slice fo F.length fc, .slice co C.length cc] 26)) magB #[.int .u8 112, .int .u8 118, .int .u8 109, .int .u8 1] rfl (by unfold magB; simp); rw [World.size_alloc] at this ⊢; exact this, al3⟩
  have HX3 := hide ((unhide HX1).below al3)
  have HT : Hid (magB ++ mdW ⟨nm, ao, cap, T, fo, fc, F, co, cc, C⟩ = magB ++ nb nm ++ be (T.length : Int) 1 ++ T.flatMap clE ++ be (F.length : Int) 1 ++ F.flatMap fnW ++ ctW C) := hide (by unfold mdW; simp only [List.append_assoc])
  have HM := hide hm
  have HTB := hide (hm.ok.tab.below al)
  have HFB := hide (hm.ok.fns.below al)
  have HCB := hide (hm.ok.cts.below al)
  have hnm : nm.size ≤ 255 := by have := name_size (s := nm) (nameB_of hm.v.1); omega
  have hTl : T.length ≤ 32 := by have := hm.v.2.1; simpa [mcOf] using this
  have hFl : F.length ≤ 64 := by have := hm.v.2.2.2.1; simpa [mcOf] using this
  have hCl : C.length ≤ 64 := by
    rcases hm.v.2.2.2.2.2.1 with h6 | ⟨h6, _⟩
    · have : C = [] := by simpa [mcOf] using h6
      rw [this]; simp
    · have : C.length = F.length := by simpa [mcOf] using h6
      omega
  have HB1 := hide al
  clear al al3 HX1 hm
  go_enter Tryz.func31, Tryz.ntmps31
  go_upto_region 2 with fail
  generalize (w.alloc (.cells #[.string nm, .slice ao T.length cap, .slice fo F.length fc, .slice co C.length cc] 26)).alloc (.cells #[.int .u8 112, .int .u8 118, .int .u8 109, .int .u8 1] 5) = W3 at HR3 HX3 ⊢
  generalize w.alloc (.cells #[.string nm, .slice ao T.length cap, .slice fo F.length fc, .slice co C.length cc] 26) = w1 at HR3 HTB HFB HCB HB1 ⊢
  obtain ⟨v3, HV3⟩ : ∃ v, Value.slice (some ⟨w.heap.size + 1, 0, none⟩) 4 4 = v := ⟨_, rfl⟩
  rw [HV3] at HR3 ⊢
  clear HV3
  have c0 := (unhide HX3).c 0 rfl
  have HC := hide (refn_any (unhide HR3) nm hnm (pre (unhide HLB) (by rw [unhide HT] <;> (simp only [flE, clE, fnW, ctOne, List.append_assoc] <;> rfl))))
  go_wp2_with fail
  refine (unhide HC).mono ?_
  rintro e W4 ⟨v4, rfl, hr, ht⟩
  have HR4 := hide hr
  have HX4 := hide (ht _ _ _ (unhide HX3) (by decide))
  clear hr ht HC HR3 HX3 c0
  have c0 := (unhide HX4).c 1 rfl
  have h256 : (T.length : Int) % 256 = (T.length : Int) := by omega
  have al : Below W4.heap.size W4 (W4.alloc (.cells #[.int .u8 (T.length : Int)] 5)) := (Below.refl _ _).alloc (Nat.le_refl _) _
  have HL := hide (lit1 (W := W4) (n := T.length) (by omega))
  have HR6 := hide ((unhide HR4).below al)
  have HX6 := hide ((unhide HX4).below al)
  have hlb : (magB ++ nb nm).length ≤ 1000000000 := pre (unhide HLB) (by rw [unhide HT] <;> (simp only [flE, clE, fnW, ctOne, List.append_assoc] <;> rfl))
  obtain ⟨P, HP⟩ : ∃ P, Hid (magB ++ nb nm = P) := ⟨_, hide rfl⟩
  rw [unhide HP] at hlb HR6
  clear al HR4
  go_wp2_with (at_builtin; refine wpList_appendB rfl _ _ rfl w1.heap.size _ P rfl (unhide HR6).own _ (be (T.length : Int) 1) rfl (unhide HL).src ?z6 ?z4 ?_)
  case z6 => simp only [List.length_append, be_length]; omega
  case z4 => have hz := (unhide HR6).bel.size; first | exact hz | (rw [World.size_alloc] at hz; exact hz)
  intro v5 W5 ho hg hf _
  have HR5 := hide ((unhide HR6).step ho hg)
  have HX5 := hide ((unhide HR6).tyS hg _ _ _ (unhide HX6) (by decide))
  rw [← unhide HP] at HR5
  clear ho hg hf hlb HL HP HR6 HX4 HX6 c0
  have c0 := (unhide HX5).c 1 rfl
  go_wp2_with fail
  go_loopw [3, 4] (fun z i wr => ∃ (j : Nat) (v : Value), j ≤ T.length ∧ i = .int .i64 (j : Int) ∧ v = z ∧ Hid (RO w1 wr v ((magB ++ nb nm ++ be (T.length : Int) 1) ++ (T.take j).flatMap clE)) ∧ Hid (Bx wr w.heap.size 26 #[.string nm, .slice ao T.length cap, .slice fo F.length fc, .slice co C.length cc])) (fun _ i _ => T.length - (intOf i).toNat)
  case atStart => exact ⟨0, _, by omega, rfl, rfl, hide (by have := unhide HR5; rw [List.take_zero, List.flatMap_nil, List.append_nil]; exact this), HX5⟩
  case round =>
    clear HR5 HX5 c0
    obtain ⟨j, v7, hj, rfl, rfl, HR7, HX7⟩ := hrel
    by_cases hlt : j < T.length
    · have i1 : ((j : Nat) : Int) < ((T.length : Nat) : Int) := by omega
      obtain ⟨⟨xn, par, xo, xc, fs⟩, HFJ⟩ : ∃ x, Hid (T[j]? = some x) := ⟨_, hide (List.getElem?_eq_getElem hlt)⟩
      obtain ⟨b, off, rfl, hx⟩ := (unhide HTB).below (unhide HR7).bel j _ (unhide HFJ)
      have hx0 := (unhide HTB) j _ (unhide HFJ)
      have HFS : Hid (FsAt w1 xo fs) := hide (by obtain ⟨_, _, _, hx0⟩ := hx0; exact hx0.flds)
      obtain ⟨hv1, hv2, hv3, hv4⟩ := (unhide HM).v.2.2.1 (clC ⟨xn, par, xo, xc, fs⟩) (List.mem_map_of_mem (List.mem_of_getElem? (unhide HFJ)))
      have hxn : xn.size ≤ 255 := by have := name_size (s := xn) (nameB_of hv1); omega
      have hv2 : ParV par := hv2
      have hfl : fs.length ≤ 32 := by have h : (fs.map flC).length ≤ 32 := hv3; rwa [List.length_map] at h
      have HV4 : Hid (∀ f ∈ fs, FdV (flC f)) := hide (fun f hf => hv4 (flC f) (List.mem_map_of_mem hf))
      have HFL := hide (flat_at clE (unhide HFJ))
      have q0 := hx.c0
      have q1 := hx.c1
      have q2 := hx.c2
      have c0 := (unhide HX7).c 1 rfl
      clear hx hx0 hv1 hv3 hv4
      go_upto_region 8 with fail
      have al : Below wr.heap.size wr (wr.alloc (.cells #[.string xn, .int .i64 par, .slice xo fs.length xc] 80)) := (Below.refl _ _).alloc (Nat.le_refl _) _
      have HR8 := hide ((unhide HR7).below al)
      have HX8 := hide ((unhide HX7).below al)
      have HF8 : Hid (Bx (wr.alloc (.cells #[.string xn, .int .i64 par, .slice xo fs.length xc] 80)) wr.heap.size 80 #[.string xn, .int .i64 par, .slice xo fs.length xc]) := hide (heap_alloc_new wr _)
      clear al q0 q1 q2 c0 HR7 HX7
      generalize wr.alloc (.cells #[.string xn, .int .i64 par, .slice xo fs.length xc] 80) = W8 at HR8 HF8 HX8 ⊢
      generalize wr.heap.size = gf at HF8 ⊢
      have c0 := (unhide HF8).c 0 rfl
      have HC := hide (refn_any (unhide HR8) xn hxn (pre (unhide HLB) (by rw [unhide HT, (unhide HFL).1] <;> (simp only [flE, clE, fnW, ctOne, List.append_assoc] <;> rfl))))
      go_wp2_with fail
      refine (unhide HC).mono ?_
      rintro e W9 ⟨v9, rfl, hr, ht⟩
      have HR9 := hide hr
      have HX9 := hide (ht _ _ _ (unhide HX8) (by decide))
      have HF9 := hide (ht _ _ _ (unhide HF8) (by decide))
      clear hr ht HC HR8 HX8 HF8 c0
      by_cases h0 : par < 0
      · have i0 : ¬ par ≥ 0 := by omega
        have HPN : Hid (((255 : Nat) : Int) = (parN par : Int)) := hide (by unfold parN; rw [if_pos h0])
        have c1 := (unhide HF9).c 1 rfl
        have c2 := (unhide HF9).c 2 rfl
        have h256 : (fs.length : Int) % 256 = (fs.length : Int) := by omega
        have al : Below W9.heap.size W9 (W9.alloc (.cells #[.int .u8 255, .int .u8 (fs.length : Int)] 5)) := (Below.refl _ _).alloc (Nat.le_refl _) _
        have HL := hide (lit11 (W := W9) (a := 255) (b := fs.length) (by omega) (by omega))
        have HR11 := hide ((unhide HR9).below al)
        have HX11 := hide ((unhide HX9).below al)
        have HF11 := hide ((unhide HF9).below al)
        have hlb : ((magB ++ nb nm ++ be (T.length : Int) 1) ++ (T.take j).flatMap clE ++ nb xn).length ≤ 1000000000 := pre (unhide HLB) (by rw [unhide HT, (unhide HFL).1] <;> (simp only [flE, clE, fnW, ctOne, List.append_assoc] <;> rfl))
        obtain ⟨P, HP⟩ : ∃ P, Hid ((magB ++ nb nm ++ be (T.length : Int) 1) ++ (T.take j).flatMap clE ++ nb xn = P) := ⟨_, hide rfl⟩
        rw [unhide HP] at hlb HR11
        clear al HR9
        go_wp2_with (at_builtin; refine wpList_appendB rfl _ _ rfl w1.heap.size _ P rfl (unhide HR11).own _ (be (255 : Int) 1 ++ be (fs.length : Int) 1) rfl (unhide HL).src ?z6 ?z4 ?_)
        case z6 => simp only [List.length_append, be_length]; omega
        case z4 => have hz := (unhide HR11).bel.size; first | exact hz | (rw [World.size_alloc] at hz; exact hz)
        intro v10 W10 ho hg hf _
        have HR10 := hide ((unhide HR11).step ho hg)
        have HX10 := hide ((unhide HR11).tyS hg _ _ _ (unhide HX11) (by decide))
        have HF10 := hide ((unhide HR11).tyS hg _ _ _ (unhide HF11) (by decide))
        rw [← unhide HP] at HR10
        clear ho hg hf hlb HL HP HR11 HX9 HF9 HX11 HF11 c1 c2
        have c2 := (unhide HF10).c 2 rfl
        go_wp2_with fail
        go_loopw [3, 7] (fun z i wr => ∃ (q : Nat) (v : Value), q ≤ fs.length ∧ i = .int .i64 (q : Int) ∧ v = z ∧ Hid (RO w1 wr v ((magB ++ nb nm ++ be (T.length : Int) 1) ++ (T.take j).flatMap clE ++ nb xn ++ (be (255 : Int) 1 ++ be (fs.length : Int) 1) ++ (fs.take q).flatMap flE)) ∧ Hid (Bx wr w.heap.size 26 #[.string nm, .slice (some ⟨b, off, none⟩) T.length cap, .slice fo F.length fc, .slice co C.length cc]) ∧ Hid (Bx wr gf 80 #[.string xn, .int .i64 par, .slice xo fs.length xc])) (fun _ i _ => fs.length - (intOf i).toNat)
        case atStart => exact ⟨0, _, by omega, rfl, rfl, hide (by have := unhide HR10; rw [List.take_zero, List.flatMap_nil, List.append_nil]; exact this), HX10, HF10⟩
        case round =>
          clear HR10 HX10 HF10 c2
          obtain ⟨q, v12, hq, rfl, rfl, HR12, HX12, HF12⟩ := hrel
          by_cases hlq : q < fs.length
          · have i2 : ((q : Nat) : Int) < ((fs.length : Nat) : Int) := by omega
            obtain ⟨⟨fnm, ft⟩, HGJ⟩ : ∃ x, Hid (fs[q]? = some x) := ⟨_, hide (List.getElem?_eq_getElem hlq)⟩
            obtain ⟨b2, off2, rfl, hx⟩ := (unhide HFS).below (unhide HR12).bel q _ (unhide HGJ)
            have hft : ft < 256 := hx.ty
            have hfn : fnm.size ≤ 255 := by have := name_size (s := fnm) (nameB_of ((unhide HV4) _ (List.mem_of_getElem? (unhide HGJ))).1); omega
            have HGL := hide (flat_at flE (unhide HGJ))
            have q0 := hx.c0
            clear hx
            have HCL : clE ⟨xn, par, some ⟨b2, off2, none⟩, xc, fs⟩ = nb xn ++ ((be (255 : Int) 1 ++ be (fs.length : Int) 1) ++ fs.flatMap flE) := by unfold clE; rw [← unhide HPN]; simp only [List.append_assoc] <;> rfl
            have c2 := (unhide HF12).c 2 rfl
            have HC := hide (refn_any (unhide HR12) fnm hfn (pre (unhide HLB) (by rw [unhide HT, (unhide HFL).1, HCL, (unhide HGL).1] <;> (simp only [flE, clE, fnW, ctOne, List.append_assoc] <;> rfl))))
            go_wp2_with fail
            refine (unhide HC).mono ?_
            rintro e W13 ⟨v13, rfl, hr, ht⟩
            have HR13 := hide hr
            have HX13 := hide (ht _ _ _ (unhide HX12) (by decide))
            have HF13 := hide (ht _ _ _ (unhide HF12) (by decide))
            clear hr ht HC HR12 HX12 HF12 c2
            clear q0
            obtain ⟨_, _, e2, hx⟩ := (unhide HFS).below (unhide HR13).bel q _ (unhide HGJ)
            cases e2
            have q1 := hx.c1
            clear hx
            have c2 := (unhide HF13).c 2 rfl
            have al : Below W13.heap.size W13 (W13.alloc (.cells #[.int .u8 (ft : Int)] 5)) := (Below.refl _ _).alloc (Nat.le_refl _) _
            have HL := hide (lit1 (W := W13) (n := ft) (by omega))
            have HR15 := hide ((unhide HR13).below al)
            have HX15 := hide ((unhide HX13).below al)
            have HF15 := hide ((unhide HF13).below al)
            have hlb : ((magB ++ nb nm ++ be (T.length : Int) 1) ++ (T.take j).flatMap clE ++ nb xn ++ (be (255 : Int) 1 ++ be (fs.length : Int) 1) ++ (fs.take q).flatMap flE ++ nb fnm).length ≤ 1000000000 := pre (unhide HLB) (by rw [unhide HT, (unhide HFL).1, HCL, (unhide HGL).1] <;> (simp only [flE, clE, fnW, ctOne, List.append_assoc] <;> rfl))
            obtain ⟨P, HP⟩ : ∃ P, Hid ((magB ++ nb nm ++ be (T.length : Int) 1) ++ (T.take j).flatMap clE ++ nb xn ++ (be (255 : Int) 1 ++ be (fs.length : Int) 1) ++ (fs.take q).flatMap flE ++ nb fnm = P) := ⟨_, hide rfl⟩
            rw [unhide HP] at hlb HR15
            clear al HR13
            go_wp2_with (at_builtin; refine wpList_appendB rfl _ _ rfl w1.heap.size _ P rfl (unhide HR15).own _ (be (ft : Int) 1) rfl (unhide HL).src ?z6 ?z4 ?_)
            case z6 => simp only [List.length_append, be_length]; omega
            case z4 => have hz := (unhide HR15).bel.size; first | exact hz | (rw [World.size_alloc] at hz; exact hz)
            intro v14 W14 ho hg hf _
            have HR14 := hide ((unhide HR15).step ho hg)
            have HX14 := hide ((unhide HR15).tyS hg _ _ _ (unhide HX15) (by decide))
            have HF14 := hide ((unhide HR15).tyS hg _ _ _ (unhide HF15) (by decide))
            rw [← unhide HP] at HR14
            clear ho hg hf hlb HL HP HR15 HX13 HF13 HX15 HF15 c2
            clear q1 HCL
            have HRn : Hid (RO w1 W14 v14 ((magB ++ nb nm ++ be (T.length : Int) 1) ++ (T.take j).flatMap clE ++ nb xn ++ (be (255 : Int) 1 ++ be (fs.length : Int) 1) ++ (fs.take (q + 1)).flatMap flE)) := hide (by rw [(unhide HGL).2]; have := unhide HR14; simp only [flE, List.append_assoc] at this ⊢; exact this)
            clear HR14 HGL HGJ
            go_wp2
            go_roundw
            case rel => exact ⟨q + 1, _, by omega, by go_num, rfl, HRn, HX14, HF14⟩
            case measure => simp [intOf]; omega
          · have i2 : ¬ ((q : Nat) : Int) < ((fs.length : Nat) : Int) := by omega
            have c2 := (unhide HF12).c 2 rfl
            have HCL : clE ⟨xn, par, xo, xc, fs⟩ = nb xn ++ ((be (255 : Int) 1 ++ be (fs.length : Int) 1) ++ fs.flatMap flE) := by unfold clE; rw [← unhide HPN]; simp only [List.append_assoc] <;> rfl
            have HRn : Hid (RO w1 wr v12 ((magB ++ nb nm ++ be (T.length : Int) 1) ++ (T.take (j + 1)).flatMap clE)) := hide (by rw [(unhide HFL).2, HCL]; have := unhide HR12; rw [show fs.take q = fs from List.take_of_length_le (by omega)] at this; simp only [List.append_assoc] at this ⊢; exact this)
            clear HR12 HCL HFL HFJ
            go_wp2
            go_roundw
            case rel => exact ⟨j + 1, _, by omega, by go_num, rfl, HRn, HX12⟩
            case measure => simp [intOf]; omega
      · have i0 : par ≥ 0 := by omega
        obtain ⟨p, rfl⟩ : ∃ p : Nat, par = (p : Int) := ⟨par.toNat, by omega⟩
        have hp255 : p < 255 := by unfold ParV at hv2; omega
        have HPN : Hid ((p : Int) = (parN (p : Int) : Int)) := hide (by unfold parN; rw [if_neg (by omega)]; omega)
        have c1 := (unhide HF9).c 1 rfl
        have c2 := (unhide HF9).c 2 rfl
        have h256 : (fs.length : Int) % 256 = (fs.length : Int) := by omega
        have h257 : (p : Int) % 256 = (p : Int) := by omega
        have al : Below W9.heap.size W9 (W9.alloc (.cells #[.int .u8 (p : Int), .int .u8 (fs.length : Int)] 5)) := (Below.refl _ _).alloc (Nat.le_refl _) _
        have HL := hide (lit11 (W := W9) (a := p) (b := fs.length) (by omega) (by omega))
        have HR17 := hide ((unhide HR9).below al)
        have HX17 := hide ((unhide HX9).below al)
        have HF17 := hide ((unhide HF9).below al)
        have hlb : ((magB ++ nb nm ++ be (T.length : Int) 1) ++ (T.take j).flatMap clE ++ nb xn).length ≤ 1000000000 := pre (unhide HLB) (by rw [unhide HT, (unhide HFL).1] <;> (simp only [flE, clE, fnW, ctOne, List.append_assoc] <;> rfl))
        obtain ⟨P, HP⟩ : ∃ P, Hid ((magB ++ nb nm ++ be (T.length : Int) 1) ++ (T.take j).flatMap clE ++ nb xn = P) := ⟨_, hide rfl⟩
        rw [unhide HP] at hlb HR17
        clear al HR9
        go_wp2_with (at_builtin; refine wpList_appendB rfl _ _ rfl w1.heap.size _ P rfl (unhide HR17).own _ (be (p : Int) 1 ++ be (fs.length : Int) 1) rfl (unhide HL).src ?z6 ?z4 ?_)
        case z6 => simp only [List.length_append, be_length]; omega
        case z4 => have hz := (unhide HR17).bel.size; first | exact hz | (rw [World.size_alloc] at hz; exact hz)
        intro v16 W16 ho hg hf _
        have HR16 := hide ((unhide HR17).step ho hg)
        have HX16 := hide ((unhide HR17).tyS hg _ _ _ (unhide HX17) (by decide))
        have HF16 := hide ((unhide HR17).tyS hg _ _ _ (unhide HF17) (by decide))
        rw [← unhide HP] at HR16
        clear ho hg hf hlb HL HP HR17 HX9 HF9 HX17 HF17 c1 c2
        have c2 := (unhide HF16).c 2 rfl
        go_wp2_with fail
        go_loopw [3, 7] (fun z i wr => ∃ (q : Nat) (v : Value), q ≤ fs.length ∧ i = .int .i64 (q : Int) ∧ v = z ∧ Hid (RO w1 wr v ((magB ++ nb nm ++ be (T.length : Int) 1) ++ (T.take j).flatMap clE ++ nb xn ++ (be (p : Int) 1 ++ be (fs.length : Int) 1) ++ (fs.take q).flatMap flE)) ∧ Hid (Bx wr w.heap.size 26 #[.string nm, .slice (some ⟨b, off, none⟩) T.length cap, .slice fo F.length fc, .slice co C.length cc]) ∧ Hid (Bx wr gf 80 #[.string xn, .int .i64 (p : Int), .slice xo fs.length xc])) (fun _ i _ => fs.length - (intOf i).toNat)
        case atStart => exact ⟨0, _, by omega, rfl, rfl, hide (by have := unhide HR16; rw [List.take_zero, List.flatMap_nil, List.append_nil]; exact this), HX16, HF16⟩
        case round =>
          clear HR16 HX16 HF16 c2
          obtain ⟨q, v18, hq, rfl, rfl, HR18, HX18, HF18⟩ := hrel
          by_cases hlq : q < fs.length
          · have i2 : ((q : Nat) : Int) < ((fs.length : Nat) : Int) := by omega
            obtain ⟨⟨fnm, ft⟩, HGJ⟩ : ∃ x, Hid (fs[q]? = some x) := ⟨_, hide (List.getElem?_eq_getElem hlq)⟩
            obtain ⟨b2, off2, rfl, hx⟩ := (unhide HFS).below (unhide HR18).bel q _ (unhide HGJ)
            have hft : ft < 256 := hx.ty
            have hfn : fnm.size ≤ 255 := by have := name_size (s := fnm) (nameB_of ((unhide HV4) _ (List.mem_of_getElem? (unhide HGJ))).1); omega
            have HGL := hide (flat_at flE (unhide HGJ))
            have q0 := hx.c0
            clear hx
            have HCL : clE ⟨xn, (p : Int), some ⟨b2, off2, none⟩, xc, fs⟩ = nb xn ++ ((be (p : Int) 1 ++ be (fs.length : Int) 1) ++ fs.flatMap flE) := by unfold clE; rw [← unhide HPN]; simp only [List.append_assoc] <;> rfl
            have c2 := (unhide HF18).c 2 rfl
            have HC := hide (refn_any (unhide HR18) fnm hfn (pre (unhide HLB) (by rw [unhide HT, (unhide HFL).1, HCL, (unhide HGL).1] <;> (simp only [flE, clE, fnW, ctOne, List.append_assoc] <;> rfl))))
            go_wp2_with fail
            refine (unhide HC).mono ?_
            rintro e W19 ⟨v19, rfl, hr, ht⟩
            have HR19 := hide hr
            have HX19 := hide (ht _ _ _ (unhide HX18) (by decide))
            have HF19 := hide (ht _ _ _ (unhide HF18) (by decide))
            clear hr ht HC HR18 HX18 HF18 c2
            clear q0
            obtain ⟨_, _, e2, hx⟩ := (unhide HFS).below (unhide HR19).bel q _ (unhide HGJ)
            cases e2
            have q1 := hx.c1
            clear hx
            have c2 := (unhide HF19).c 2 rfl
            have al : Below W19.heap.size W19 (W19.alloc (.cells #[.int .u8 (ft : Int)] 5)) := (Below.refl _ _).alloc (Nat.le_refl _) _
            have HL := hide (lit1 (W := W19) (n := ft) (by omega))
            have HR21 := hide ((unhide HR19).below al)
            have HX21 := hide ((unhide HX19).below al)
            have HF21 := hide ((unhide HF19).below al)
            have hlb : ((magB ++ nb nm ++ be (T.length : Int) 1) ++ (T.take j).flatMap clE ++ nb xn ++ (be (p : Int) 1 ++ be (fs.length : Int) 1) ++ (fs.take q).flatMap flE ++ nb fnm).length ≤ 1000000000 := pre (unhide HLB) (by rw [unhide HT, (unhide HFL).1, HCL, (unhide HGL).1] <;> (simp only [flE, clE, fnW, ctOne, List.append_assoc] <;> rfl))
            obtain ⟨P, HP⟩ : ∃ P, Hid ((magB ++ nb nm ++ be (T.length : Int) 1) ++ (T.take j).flatMap clE ++ nb xn ++ (be (p : Int) 1 ++ be (fs.length : Int) 1) ++ (fs.take q).flatMap flE ++ nb fnm = P) := ⟨_, hide rfl⟩
            rw [unhide HP] at hlb HR21
            clear al HR19
            go_wp2_with (at_builtin; refine wpList_appendB rfl _ _ rfl w1.heap.size _ P rfl (unhide HR21).own _ (be (ft : Int) 1) rfl (unhide HL).src ?z6 ?z4 ?_)
            case z6 => simp only [List.length_append, be_length]; omega
            case z4 => have hz := (unhide HR21).bel.size; first | exact hz | (rw [World.size_alloc] at hz; exact hz)
            intro v20 W20 ho hg hf _
            have HR20 := hide ((unhide HR21).step ho hg)
            have HX20 := hide ((unhide HR21).tyS hg _ _ _ (unhide HX21) (by decide))
            have HF20 := hide ((unhide HR21).tyS hg _ _ _ (unhide HF21) (by decide))
            rw [← unhide HP] at HR20
            clear ho hg hf hlb HL HP HR21 HX19 HF19 HX21 HF21 c2
            clear q1 HCL
            have HRn : Hid (RO w1 W20 v20 ((magB ++ nb nm ++ be (T.length : Int) 1) ++ (T.take j).flatMap clE ++ nb xn ++ (be (p : Int) 1 ++ be (fs.length : Int) 1) ++ (fs.take (q + 1)).flatMap flE)) := hide (by rw [(unhide HGL).2]; have := unhide HR20; simp only [flE, List.append_assoc] at this ⊢; exact this)
            clear HR20 HGL HGJ
            go_wp2
            go_roundw
            case rel => exact ⟨q + 1, _, by omega, by go_num, rfl, HRn, HX20, HF20⟩
            case measure => simp [intOf]; omega
          · have i2 : ¬ ((q : Nat) : Int) < ((fs.length : Nat) : Int) := by omega
            have c2 := (unhide HF18).c 2 rfl
            have HCL : clE ⟨xn, (p : Int), xo, xc, fs⟩ = nb xn ++ ((be (p : Int) 1 ++ be (fs.length : Int) 1) ++ fs.flatMap flE) := by unfold clE; rw [← unhide HPN]; simp only [List.append_assoc] <;> rfl
            have HRn : Hid (RO w1 wr v18 ((magB ++ nb nm ++ be (T.length : Int) 1) ++ (T.take (j + 1)).flatMap clE)) := hide (by rw [(unhide HFL).2, HCL]; have := unhide HR18; rw [show fs.take q = fs from List.take_of_length_le (by omega)] at this; simp only [List.append_assoc] at this ⊢; exact this)
            clear HR18 HCL HFL HFJ
            go_wp2
            go_roundw
            case rel => exact ⟨j + 1, _, by omega, by go_num, rfl, HRn, HX18⟩
            case measure => simp [intOf]; omega
    · have i1 : ¬ ((j : Nat) : Int) < ((T.length : Nat) : Int) := by omega
      have HRe : Hid (RO w1 wr v7 ((magB ++ nb nm ++ be (T.length : Int) 1) ++ T.flatMap clE)) := hide (by have := unhide HR7; rw [show T.take j = T from List.take_of_length_le (by omega)] at this; exact this)
      clear HR7
      have HR22 := HRe
      have HX22 := HX7
      clear HRe HX7
      have c0 := (unhide HX22).c 1 rfl
      have c3 := (unhide HX22).c 2 rfl
      have h256 : (F.length : Int) % 256 = (F.length : Int) := by omega
      have al : Below wr.heap.size wr (wr.alloc (.cells #[.int .u8 (F.length : Int)] 5)) := (Below.refl _ _).alloc (Nat.le_refl _) _
      have HL := hide (lit1 (W := wr) (n := F.length) (by omega))
      have HR24 := hide ((unhide HR22).below al)
      have HX24 := hide ((unhide HX22).below al)
      have hlb : ((magB ++ nb nm ++ be (T.length : Int) 1) ++ T.flatMap clE).length ≤ 1000000000 := pre (unhide HLB) (by rw [unhide HT] <;> (simp only [flE, clE, fnW, ctOne, List.append_assoc] <;> rfl))
      obtain ⟨P, HP⟩ : ∃ P, Hid ((magB ++ nb nm ++ be (T.length : Int) 1) ++ T.flatMap clE = P) := ⟨_, hide rfl⟩
      rw [unhide HP] at hlb HR24
      clear al HR22
      go_wp2_with (at_builtin; refine wpList_appendB rfl _ _ rfl w1.heap.size _ P rfl (unhide HR24).own _ (be (F.length : Int) 1) rfl (unhide HL).src ?z6 ?z4 ?_)
      case z6 => simp only [List.length_append, be_length]; omega
      case z4 => have hz := (unhide HR24).bel.size; first | exact hz | (rw [World.size_alloc] at hz; exact hz)
      intro v23 W23 ho hg hf _
      have HR23 := hide ((unhide HR24).step ho hg)
      have HX23 := hide ((unhide HR24).tyS hg _ _ _ (unhide HX24) (by decide))
      rw [← unhide HP] at HR23
      clear ho hg hf hlb HL HP HR24 HX22 HX24 c0 c3
      have c3 := (unhide HX23).c 2 rfl
      go_wp2_with fail
      go_loopw [3, 8] (fun z i wr => ∃ (j : Nat) (v : Value), j ≤ F.length ∧ i = .int .i64 (j : Int) ∧ v = z ∧ Hid (RO w1 wr v (((magB ++ nb nm ++ be (T.length : Int) 1) ++ T.flatMap clE ++ be (F.length : Int) 1) ++ (F.take j).flatMap fnW)) ∧ Hid (Bx wr w.heap.size 26 #[.string nm, .slice ao T.length cap, .slice fo F.length fc, .slice co C.length cc])) (fun _ i _ => F.length - (intOf i).toNat)
      case atStart => exact ⟨0, _, by omega, rfl, rfl, hide (by have := unhide HR23; rw [List.take_zero, List.flatMap_nil, List.append_nil]; exact this), HX23⟩
      case round =>
        clear HR23 HX23 c3 i1 hlt hj
        obtain ⟨j, v25, hj, rfl, rfl, HR25, HX25⟩ := hrel
        by_cases hlt : j < F.length
        · have i1 : ((j : Nat) : Int) < ((F.length : Nat) : Int) := by omega
          obtain ⟨⟨xn, ⟨po, pc, ps, rt⟩, lo, ca, xcc, cd⟩, HFJ⟩ : ∃ x, Hid (F[j]? = some x) := ⟨_, hide (List.getElem?_eq_getElem hlt)⟩
          obtain ⟨b, off, rfl, hx0⟩ := (unhide HFB) j _ (unhide HFJ)
          have hx := hx0.below (unhide HR25).bel
          have HOK := hide hx0.ok
          obtain ⟨hv1, hv2, hv3, hv4, hv5, hv6⟩ := (unhide HM).v.2.2.2.2.1 (fnC ⟨xn, ⟨po, pc, ps, rt⟩, lo, ca, xcc, cd⟩) (List.mem_map_of_mem (List.mem_of_getElem? (unhide HFJ)))
          have hxn : xn.size ≤ 255 := by have := name_size (s := xn) (nameB_of hv1); omega
          have hpl : ps.length ≤ 8 := hv2
          have hrt : rt < 256 := hv4
          obtain ⟨ln, rfl⟩ : ∃ n : Nat, lo = (n : Int) := ⟨lo.toNat, by have h : (0 ≤ lo ∧ lo < 256) := hv5; omega⟩
          have hln : ln < 256 := by have h : (0 ≤ (ln : Int) ∧ (ln : Int) < 256) := hv5; omega
          have hcd : cd.length < 65536 := hv6
          have hcn : cd.length ≠ 0 := (unhide HM).cd _ (List.mem_of_getElem? (unhide HFJ))
          have HSC : Hid (SrcB w1 (.slice ca cd.length xcc) cd) := hide (by
            have hb : BAt w1 ca cd := hx0.ok.code
            have hnil : ca = none → cd = [] := hx0.ok.nil
            cases ca with
            | none => rw [hnil rfl] at hcn; exact absurd rfl hcn
            | some a => exact Or.inr ⟨a, xcc, rfl, hb⟩)
          have HFL := hide (flat_at fnW (unhide HFJ))
          have HFW : Hid (fnW ⟨xn, ⟨po, pc, ps, rt⟩, (ln : Int), ca, xcc, cd⟩ = nb xn ++ (be (ps.length : Int) 1 ++ (ps.flatMap (fun (t : Nat) => be (t : Int) 1) ++ (be (rt : Int) 1 ++ (be (ln : Int) 1 ++ (be (cd.length : Int) 2 ++ cd)))))) := hide rfl
          have q0 := hx.c0
          have q1 := hx.c1
          have q2 := hx.c2
          have q3 := hx.c3
          have q4 := hx.c4
          have c3 := (unhide HX25).c 2 rfl
          clear hx hx0 hv1 hv2 hv3 hv4 hv5 hv6
          go_upto_region 23 with fail
          have al : Below wr.heap.size wr (wr.alloc (.cells #[.string xn, .slice po ps.length pc, .int .u8 (rt : Int), .int .i64 (ln : Int), .slice ca cd.length xcc] 44)) := (Below.refl _ _).alloc (Nat.le_refl _) _
          have HR26 := hide ((unhide HR25).below al)
          have HX26 := hide ((unhide HX25).below al)
          have HF26 : Hid (Bx (wr.alloc (.cells #[.string xn, .slice po ps.length pc, .int .u8 (rt : Int), .int .i64 (ln : Int), .slice ca cd.length xcc] 44)) wr.heap.size 44 #[.string xn, .slice po ps.length pc, .int .u8 (rt : Int), .int .i64 (ln : Int), .slice ca cd.length xcc]) := hide (heap_alloc_new wr _)
          clear al q0 q1 q2 q3 q4 c3 HR25 HX25
          generalize wr.alloc (.cells #[.string xn, .slice po ps.length pc, .int .u8 (rt : Int), .int .i64 (ln : Int), .slice ca cd.length xcc] 44) = W26 at HR26 HF26 HX26 ⊢
          generalize wr.heap.size = gf at HF26 ⊢
          have c0 := (unhide HF26).c 0 rfl
          have HC := hide (refn_any (unhide HR26) xn hxn (pre (unhide HLB) (by rw [unhide HT, (unhide HFL).1, unhide HFW] <;> (simp only [flE, clE, fnW, ctOne, List.append_assoc] <;> rfl))))
          go_wp2_with fail
          refine (unhide HC).mono ?_
          rintro e W27 ⟨v27, rfl, hr, ht⟩
          have HR27 := hide hr
          have HX27 := hide (ht _ _ _ (unhide HX26) (by decide))
          have HF27 := hide (ht _ _ _ (unhide HF26) (by decide))
          clear hr ht HC HR26 HX26 HF26 c0
          have c1 := (unhide HF27).c 1 rfl
          have h256 : (ps.length : Int) % 256 = (ps.length : Int) := by omega
          have al : Below W27.heap.size W27 (W27.alloc (.cells #[.int .u8 (ps.length : Int)] 5)) := (Below.refl _ _).alloc (Nat.le_refl _) _
          have HL := hide (lit1 (W := W27) (n := ps.length) (by omega))
          have HR29 := hide ((unhide HR27).below al)
          have HX29 := hide ((unhide HX27).below al)
          have HF29 := hide ((unhide HF27).below al)
          have hlb : (((magB ++ nb nm ++ be (T.length : Int) 1) ++ T.flatMap clE ++ be (F.length : Int) 1) ++ (F.take j).flatMap fnW ++ nb xn).length ≤ 1000000000 := pre (unhide HLB) (by rw [unhide HT, (unhide HFL).1, unhide HFW] <;> (simp only [flE, clE, fnW, ctOne, List.append_assoc] <;> rfl))
          obtain ⟨P, HP⟩ : ∃ P, Hid (((magB ++ nb nm ++ be (T.length : Int) 1) ++ T.flatMap clE ++ be (F.length : Int) 1) ++ (F.take j).flatMap fnW ++ nb xn = P) := ⟨_, hide rfl⟩
          rw [unhide HP] at hlb HR29
          clear al HR27
          go_wp2_with (at_builtin; refine wpList_appendB rfl _ _ rfl w1.heap.size _ P rfl (unhide HR29).own _ (be (ps.length : Int) 1) rfl (unhide HL).src ?z6 ?z4 ?_)
          case z6 => simp only [List.length_append, be_length]; omega
          case z4 => have hz := (unhide HR29).bel.size; first | exact hz | (rw [World.size_alloc] at hz; exact hz)
          intro v28 W28 ho hg hf _
          have HR28 := hide ((unhide HR29).step ho hg)
          have HX28 := hide ((unhide HR29).tyS hg _ _ _ (unhide HX29) (by decide))
          have HF28 := hide ((unhide HR29).tyS hg _ _ _ (unhide HF29) (by decide))
          rw [← unhide HP] at HR28
          clear ho hg hf hlb HL HP HR29 HX27 HF27 HX29 HF29 c1
          have c1 := (unhide HF28).c 1 rfl
          go_wp2_with fail
          go_loopw [3, 10] (fun z i wr => ∃ (q : Nat) (v : Value), q ≤ ps.length ∧ i = .int .i64 (q : Int) ∧ v = z ∧ Hid (RO w1 wr v ((((magB ++ nb nm ++ be (T.length : Int) 1) ++ T.flatMap clE ++ be (F.length : Int) 1) ++ (F.take j).flatMap fnW ++ nb xn ++ be (ps.length : Int) 1) ++ (ps.take q).flatMap (fun (t : Nat) => be (t : Int) 1))) ∧ Hid (Bx wr w.heap.size 26 #[.string nm, .slice ao T.length cap, .slice (some ⟨b, off, none⟩) F.length fc, .slice co C.length cc]) ∧ Hid (Bx wr gf 44 #[.string xn, .slice po ps.length pc, .int .u8 (rt : Int), .int .i64 (ln : Int), .slice ca cd.length xcc])) (fun _ i _ => ps.length - (intOf i).toNat)
          case atStart => exact ⟨0, _, by omega, rfl, rfl, hide (by have := unhide HR28; rw [List.take_zero, List.flatMap_nil, List.append_nil]; exact this), HX28, HF28⟩
          case round =>
            clear HR28 HX28 HF28 c1
            obtain ⟨q, v30, hq, rfl, rfl, HR30, HX30, HF30⟩ := hrel
            by_cases hlq : q < ps.length
            · have i2 : ((q : Nat) : Int) < ((ps.length : Nat) : Int) := by omega
              obtain ⟨t, HGJ⟩ : ∃ x, Hid (ps[q]? = some x) := ⟨_, hide (List.getElem?_eq_getElem hlq)⟩
              obtain ⟨b2, off2, rfl, q0⟩ := ((unhide HOK).sg.prm.below (unhide HR30).bel) q t (unhide HGJ)
              have hft : t < 256 := (unhide HOK).sg.bts t (List.mem_of_getElem? (unhide HGJ))
              have HGL := hide (flat_at (fun (t : Nat) => be (t : Int) 1) (unhide HGJ))
              have c1 := (unhide HF30).c 1 rfl
              have al : Below wr.heap.size wr (wr.alloc (.cells #[.int .u8 (t : Int)] 5)) := (Below.refl _ _).alloc (Nat.le_refl _) _
              have HL := hide (lit1 (W := wr) (n := t) (by omega))
              have HR32 := hide ((unhide HR30).below al)
              have HX32 := hide ((unhide HX30).below al)
              have HF32 := hide ((unhide HF30).below al)
              have hlb : ((((magB ++ nb nm ++ be (T.length : Int) 1) ++ T.flatMap clE ++ be (F.length : Int) 1) ++ (F.take j).flatMap fnW ++ nb xn ++ be (ps.length : Int) 1) ++ (ps.take q).flatMap (fun (t : Nat) => be (t : Int) 1)).length ≤ 1000000000 := pre (unhide HLB) (by rw [unhide HT, (unhide HFL).1, unhide HFW, (unhide HGL).1] <;> (simp only [flE, clE, fnW, ctOne, List.append_assoc] <;> rfl))
              obtain ⟨P, HP⟩ : ∃ P, Hid ((((magB ++ nb nm ++ be (T.length : Int) 1) ++ T.flatMap clE ++ be (F.length : Int) 1) ++ (F.take j).flatMap fnW ++ nb xn ++ be (ps.length : Int) 1) ++ (ps.take q).flatMap (fun (t : Nat) => be (t : Int) 1) = P) := ⟨_, hide rfl⟩
              rw [unhide HP] at hlb HR32
              clear al HR30
              go_wp2_with (at_builtin; refine wpList_appendB rfl _ _ rfl w1.heap.size _ P rfl (unhide HR32).own _ (be (t : Int) 1) rfl (unhide HL).src ?z6 ?z4 ?_)
              case z6 => simp only [List.length_append, be_length]; omega
              case z4 => have hz := (unhide HR32).bel.size; first | exact hz | (rw [World.size_alloc] at hz; exact hz)
              intro v31 W31 ho hg hf _
              have HR31 := hide ((unhide HR32).step ho hg)
              have HX31 := hide ((unhide HR32).tyS hg _ _ _ (unhide HX32) (by decide))
              have HF31 := hide ((unhide HR32).tyS hg _ _ _ (unhide HF32) (by decide))
              rw [← unhide HP] at HR31
              clear ho hg hf hlb HL HP HR32 HX30 HF30 HX32 HF32 c1
              clear q0
              have HRn : Hid (RO w1 W31 v31 ((((magB ++ nb nm ++ be (T.length : Int) 1) ++ T.flatMap clE ++ be (F.length : Int) 1) ++ (F.take j).flatMap fnW ++ nb xn ++ be (ps.length : Int) 1) ++ (ps.take (q + 1)).flatMap (fun (t : Nat) => be (t : Int) 1))) := hide (by rw [(unhide HGL).2]; have := unhide HR31; simp only [List.append_assoc] at this ⊢; exact this)
              clear HR31 HGL HGJ
              go_wp2
              go_roundw
              case rel => exact ⟨q + 1, _, by omega, by go_num, rfl, HRn, HX31, HF31⟩
              case measure => simp [intOf]; omega
            · have i2 : ¬ ((q : Nat) : Int) < ((ps.length : Nat) : Int) := by omega
              have HRe : Hid (RO w1 wr v30 ((((magB ++ nb nm ++ be (T.length : Int) 1) ++ T.flatMap clE ++ be (F.length : Int) 1) ++ (F.take j).flatMap fnW ++ nb xn ++ be (ps.length : Int) 1) ++ ps.flatMap (fun (t : Nat) => be (t : Int) 1))) := hide (by have := unhide HR30; rw [show ps.take q = ps from List.take_of_length_le (by omega)] at this; exact this)
              have HR33 := HRe
              have HX33 := HX30
              have HF33 := HF30
              clear HRe HR30 HX30 HF30
              have c1 := (unhide HF33).c 1 rfl
              have c2 := (unhide HF33).c 2 rfl
              have c3 := (unhide HF33).c 3 rfl
              have h256 : (ln : Int) % 256 = (ln : Int) := by omega
              have al : Below wr.heap.size wr (wr.alloc (.cells #[.int .u8 (rt : Int), .int .u8 (ln : Int)] 5)) := (Below.refl _ _).alloc (Nat.le_refl _) _
              have HL := hide (lit11 (W := wr) (a := rt) (b := ln) (by omega) (by omega))
              have HR35 := hide ((unhide HR33).below al)
              have HX35 := hide ((unhide HX33).below al)
              have HF35 := hide ((unhide HF33).below al)
              have hlb : ((((magB ++ nb nm ++ be (T.length : Int) 1) ++ T.flatMap clE ++ be (F.length : Int) 1) ++ (F.take j).flatMap fnW ++ nb xn ++ be (ps.length : Int) 1) ++ ps.flatMap (fun (t : Nat) => be (t : Int) 1)).length ≤ 1000000000 := pre (unhide HLB) (by rw [unhide HT, (unhide HFL).1, unhide HFW] <;> (simp only [flE, clE, fnW, ctOne, List.append_assoc] <;> rfl))
              obtain ⟨P, HP⟩ : ∃ P, Hid ((((magB ++ nb nm ++ be (T.length : Int) 1) ++ T.flatMap clE ++ be (F.length : Int) 1) ++ (F.take j).flatMap fnW ++ nb xn ++ be (ps.length : Int) 1) ++ ps.flatMap (fun (t : Nat) => be (t : Int) 1) = P) := ⟨_, hide rfl⟩
              rw [unhide HP] at hlb HR35
              clear al HR33
              go_wp2_with (at_builtin; refine wpList_appendB rfl _ _ rfl w1.heap.size _ P rfl (unhide HR35).own _ (be (rt : Int) 1 ++ be (ln : Int) 1) rfl (unhide HL).src ?z6 ?z4 ?_)
              case z6 => simp only [List.length_append, be_length]; omega
              case z4 => have hz := (unhide HR35).bel.size; first | exact hz | (rw [World.size_alloc] at hz; exact hz)
              intro v34 W34 ho hg hf _
              have HR34 := hide ((unhide HR35).step ho hg)
              have HX34 := hide ((unhide HR35).tyS hg _ _ _ (unhide HX35) (by decide))
              have HF34 := hide ((unhide HR35).tyS hg _ _ _ (unhide HF35) (by decide))
              rw [← unhide HP] at HR34
              clear ho hg hf hlb HL HP HR35 HX33 HF33 HX35 HF35 c1 c2 c3
              have c4 := (unhide HF34).c 4 rfl
              have HC := hide (piece_any (unhide HR34) ca xcc cd (unhide HSC) (by omega) (Nat.le_trans (pre (unhide HLB) (by rw [unhide HT, (unhide HFL).1, unhide HFW] <;> (simp only [flE, clE, fnW, ctOne, List.append_assoc] <;> rfl))) (by omega)))
              go_wp2_with fail
              refine (unhide HC).mono ?_
              rintro e W36 ⟨v36, rfl, hr, ht⟩
              have HX36 := hide (ht _ _ _ (unhide HX34) (by decide))
              have HRn : Hid (RO w1 W36 v36 (((magB ++ nb nm ++ be (T.length : Int) 1) ++ T.flatMap clE ++ be (F.length : Int) 1) ++ (F.take (j + 1)).flatMap fnW)) := hide (by rw [(unhide HFL).2, unhide HFW]; have := hr; simp only [List.append_assoc] at this ⊢; exact this)
              clear hr ht HC HR34 HX34 HF34 c4 HSC HFL HFW HFJ
              go_wp2
              go_roundw
              case rel => exact ⟨j + 1, _, by omega, by go_num, rfl, HRn, HX36⟩
              case measure => simp [intOf]; omega
        · have i1 : ¬ ((j : Nat) : Int) < ((F.length : Nat) : Int) := by omega
          have HRe : Hid (RO w1 wr v25 (((magB ++ nb nm ++ be (T.length : Int) 1) ++ T.flatMap clE ++ be (F.length : Int) 1) ++ F.flatMap fnW)) := hide (by have := unhide HR25; rw [show F.take j = F from List.take_of_length_le (by omega)] at this; exact this)
          have HR37 := HRe
          have HX37 := HX25
          clear HRe HR25 HX25
          by_cases hc : C = []
          · have j1 : (((C.length : Nat) : Int) == 0) = true := beq_t (by rw [hc]; rfl)
            have HCT : Hid (ctW C = be 0 1) := hide (by unfold ctW; rw [if_pos hc])
            clear hc
            have c5 := (unhide HX37).c 3 rfl
            have c3 := (unhide HX37).c 2 rfl
            have al : Below wr.heap.size wr (wr.alloc (.cells #[.int .u8 0] 5)) := (Below.refl _ _).alloc (Nat.le_refl _) _
            have HL := hide ((by have := lit1 (W := wr) (n := 0) (by omega); exact this : OwnB (wr.alloc (.cells #[.int .u8 0] 5)) wr.heap.size (.slice (some ⟨wr.heap.size, 0, none⟩) 1 1) (be 0 1)))
            have HR39 := hide ((unhide HR37).below al)
            have HX39 := hide ((unhide HX37).below al)
            have hlb : ((((magB ++ nb nm ++ be (T.length : Int) 1) ++ T.flatMap clE ++ be (F.length : Int) 1) ++ F.flatMap fnW)).length ≤ 1000000000 := pre (unhide HLB) (by rw [unhide HT] <;> (simp only [flE, clE, fnW, ctOne, List.append_assoc] <;> rfl))
            obtain ⟨P, HP⟩ : ∃ P, Hid ((((magB ++ nb nm ++ be (T.length : Int) 1) ++ T.flatMap clE ++ be (F.length : Int) 1) ++ F.flatMap fnW) = P) := ⟨_, hide rfl⟩
            rw [unhide HP] at hlb HR39
            clear al HR37
            go_wp2_with (at_builtin; refine wpList_appendB rfl _ _ rfl w1.heap.size _ P rfl (unhide HR39).own _ (be 0 1) rfl (unhide HL).src ?z6 ?z4 ?_)
            case z6 => simp only [List.length_append, be_length]; omega
            case z4 => have hz := (unhide HR39).bel.size; first | exact hz | (rw [World.size_alloc] at hz; exact hz)
            intro v38 W38 ho hg hf _
            have HR38 := hide ((unhide HR39).step ho hg)
            have HX38 := hide ((unhide HR39).tyS hg _ _ _ (unhide HX39) (by decide))
            rw [← unhide HP] at HR38
            clear ho hg hf hlb HL HP HR39 HX37 HX39 c5 c3
            have HRn : Hid (RO w1 W38 v38 (magB ++ mdW ⟨nm, ao, cap, T, fo, fc, F, co, cc, C⟩)) := hide (by rw [unhide HT, unhide HCT]; have := unhide HR38; simp only [List.append_assoc] at this ⊢; exact this)
            clear HR38
            go_wp2
            go_ret
            exact ⟨_, rfl, (unhide HRn).to (unhide HB1)⟩
          · have j1 : (((C.length : Nat) : Int) == 0) = false := beq_f (by have := List.length_pos_iff.2 hc; omega)
            have HCT : Hid (ctW C = be 1 1 ++ C.flatMap ctOne) := hide (by unfold ctW; rw [if_neg hc])
            clear hc
            have c5 := (unhide HX37).c 3 rfl
            have c3 := (unhide HX37).c 2 rfl
            have al : Below wr.heap.size wr (wr.alloc (.cells #[.int .u8 1] 5)) := (Below.refl _ _).alloc (Nat.le_refl _) _
            have HL := hide ((by have := lit1 (W := wr) (n := 1) (by omega); exact this : OwnB (wr.alloc (.cells #[.int .u8 1] 5)) wr.heap.size (.slice (some ⟨wr.heap.size, 0, none⟩) 1 1) (be 1 1)))
            have HR41 := hide ((unhide HR37).below al)
            have HX41 := hide ((unhide HX37).below al)
            have hlb : ((((magB ++ nb nm ++ be (T.length : Int) 1) ++ T.flatMap clE ++ be (F.length : Int) 1) ++ F.flatMap fnW)).length ≤ 1000000000 := pre (unhide HLB) (by rw [unhide HT, unhide HCT] <;> (simp only [flE, clE, fnW, ctOne, List.append_assoc] <;> rfl))
            obtain ⟨P, HP⟩ : ∃ P, Hid ((((magB ++ nb nm ++ be (T.length : Int) 1) ++ T.flatMap clE ++ be (F.length : Int) 1) ++ F.flatMap fnW) = P) := ⟨_, hide rfl⟩
            rw [unhide HP] at hlb HR41
            clear al HR37
            go_wp2_with (at_builtin; refine wpList_appendB rfl _ _ rfl w1.heap.size _ P rfl (unhide HR41).own _ (be 1 1) rfl (unhide HL).src ?z6 ?z4 ?_)
            case z6 => simp only [List.length_append, be_length]; omega
            case z4 => have hz := (unhide HR41).bel.size; first | exact hz | (rw [World.size_alloc] at hz; exact hz)
            intro v40 W40 ho hg hf _
            have HR40 := hide ((unhide HR41).step ho hg)
            have HX40 := hide ((unhide HR41).tyS hg _ _ _ (unhide HX41) (by decide))
            rw [← unhide HP] at HR40
            clear ho hg hf hlb HL HP HR41 HX37 HX41 c5 c3
            have c5 := (unhide HX40).c 3 rfl
            go_wp2_with fail
            go_loopw [3, 11] (fun z i wr => ∃ (j : Nat) (v : Value), j ≤ C.length ∧ i = .int .i64 (j : Int) ∧ v = z ∧ Hid (RO w1 wr v (((((magB ++ nb nm ++ be (T.length : Int) 1) ++ T.flatMap clE ++ be (F.length : Int) 1) ++ F.flatMap fnW) ++ be 1 1) ++ (C.take j).flatMap ctOne)) ∧ Hid (Bx wr w.heap.size 26 #[.string nm, .slice ao T.length cap, .slice fo F.length fc, .slice co C.length cc])) (fun _ i _ => C.length - (intOf i).toNat)
            case atStart => exact ⟨0, _, by omega, rfl, rfl, hide (by have := unhide HR40; rw [List.take_zero, List.flatMap_nil, List.append_nil]; exact this), HX40⟩
            case round =>
              clear HR40 HX40 c5 i1 hlt hj
              obtain ⟨j, v42, hj, rfl, rfl, HR42, HX42⟩ := hrel
              by_cases hlt : j < C.length
              · have i1 : ((j : Nat) : Int) < ((C.length : Nat) : Int) := by omega
                obtain ⟨⟨ca, xcc, cd⟩, HFJ⟩ : ∃ x, Hid (C[j]? = some x) := ⟨_, hide (List.getElem?_eq_getElem hlt)⟩
                obtain ⟨b, off, rfl, hx0⟩ := (unhide HCB) j _ (unhide HFJ)
                have hx := hx0.below (unhide HR42).bel
                have hcd : cd.length < 65536 := (unhide HM).v.2.2.2.2.2.2 (bsC ⟨ca, xcc, cd⟩) (List.mem_map_of_mem (List.mem_of_getElem? (unhide HFJ)))
                have HSC : Hid (SrcB w1 (.slice ca cd.length xcc) cd) := hide (srcT hx0.code (fun e => ⟨hx0.nil e, (unhide HM).nil _ (List.mem_of_getElem? (unhide HFJ)) e⟩))
                have HFL := hide (flat_at ctOne (unhide HFJ))
                have HFW : Hid (ctOne ⟨ca, xcc, cd⟩ = be (cd.length : Int) 2 ++ cd) := hide rfl
                have q0 := hx.c0
                have c5 := (unhide HX42).c 3 rfl
                have HC := hide (piece_any (unhide HR42) ca xcc cd (unhide HSC) (by omega) (Nat.le_trans (pre (unhide HLB) (by rw [unhide HT, unhide HCT, (unhide HFL).1, unhide HFW] <;> (simp only [flE, clE, fnW, ctOne, List.append_assoc] <;> rfl))) (by omega)))
                clear hx hx0
                go_wp2_with fail
                refine (unhide HC).mono ?_
                rintro e W43 ⟨v43, rfl, hr, ht⟩
                have HX43 := hide (ht _ _ _ (unhide HX42) (by decide))
                have HRn : Hid (RO w1 W43 v43 (((((magB ++ nb nm ++ be (T.length : Int) 1) ++ T.flatMap clE ++ be (F.length : Int) 1) ++ F.flatMap fnW) ++ be 1 1) ++ (C.take (j + 1)).flatMap ctOne)) := hide (by rw [(unhide HFL).2, unhide HFW]; have := hr; simp only [List.append_assoc] at this ⊢; exact this)
                clear hr ht HC HR42 HX42 q0 c5 HSC HFL HFW HFJ
                go_wp2
                go_roundw
                case rel => exact ⟨j + 1, _, by omega, by go_num, rfl, HRn, HX43⟩
                case measure => simp [intOf]; omega
              · have i1 : ¬ ((j : Nat) : Int) < ((C.length : Nat) : Int) := by omega
                have c5 := (unhide HX42).c 3 rfl
                have HRn : Hid (RO w1 wr v42 (magB ++ mdW ⟨nm, ao, cap, T, fo, fc, F, co, cc, C⟩)) := hide (by rw [unhide HT, unhide HCT]; have := unhide HR42; rw [show C.take j = C from List.take_of_length_le (by omega)] at this; simp only [List.append_assoc] at this ⊢; exact this)
                clear HR42
                go_wp2
                go_ret
                exact ⟨_, rfl, (unhide HRn).to (unhide HB1)⟩
end Go.Proofs.YtibgfdjopikafaaGreatDoor

/-
  The document's Encode of a module. Conditions: lengths fit.
-/
namespace Go.Proofs.YtibgfdjopikafaaGreatDoor
open Go.RowKit
set_option maxRecDepth 20000
set_option linter.unusedVariables false

def cdL (C : List Bs) : Nat := (C.flatMap fun x => x.cd).length
theorem cd_le {C : List Bs} : cdL C ≤ (ctW C).length := by
  have h : ∀ C : List Bs, cdL C ≤ (C.flatMap ctOne).length := by
    intro C
    unfold cdL
    induction C with
    | nil => simp
    | cons a l ih =>
      rw [List.flatMap_cons, List.flatMap_cons, List.length_append, List.length_append]
      unfold ctOne at ih ⊢
      rw [List.length_append]
      omega
  unfold ctW
  split
  · rename_i e; subst e; simp [cdL]
  · have := h C
    rw [List.length_append]
    omega
theorem size_file {m : Md} (hv : McV (mcOf m)) : cdL m.C ≤ (fileB (mcOf m)).length := by
  have h := cd_le (C := m.C)
  rw [← file_eq hv, tsum_len]
  unfold mdW
  simp only [List.length_append]
  omega
theorem cd_step {C : List Bs} {j : Nat} {x : Bs} (h : C[j]? = some x) : cdL (C.take (j + 1)) = cdL (C.take j) + x.cd.length := by
  unfold cdL
  rw [(flat_at (fun x : Bs => x.cd) h).2, List.length_append]
theorem cd_take (C : List Bs) (j : Nat) : cdL (C.take j) ≤ cdL C := by
  conv => rhs; rw [← List.take_append_drop j C]
  unfold cdL
  rw [List.flatMap_append, List.length_append]
  omega
set_option maxHeartbeats 4000000 in
theorem refSize_any (m : Md) (w : World) (hC : BssAt w m.co m.C) (hz : m.C.length ≤ 64) (hl : ∀ x ∈ m.C, x.cd.length < 65536) :
    Calls Tryz.prog 29 #[.agg #[.string m.nm, .slice m.ao m.T.length m.cap, .slice m.fo m.F.length m.fc, .slice m.co m.C.length m.cc]] w fun e W => (∃ n : Nat, e = .returned (.int .i64 (n : Int)) ∧ n ≤ cdL m.C) ∧ Below w.heap.size w W := by
  obtain ⟨nm, ao, cap, T, fo, fc, F, co, cc, C⟩ := m
  simp only at hC hz hl
  have al : Below w.heap.size w (w.alloc (.cells #[.string nm, .slice ao T.length cap, .slice fo F.length fc, .slice co C.length cc] 26)) := (Below.refl _ _).alloc (Nat.le_refl _) _
  have HX : Hid (Bx (w.alloc (.cells #[.string nm, .slice ao T.length cap, .slice fo F.length fc, .slice co C.length cc] 26)) w.heap.size 26 #[.string nm, .slice ao T.length cap, .slice fo F.length fc, .slice co C.length cc]) := hide (heap_alloc_new w _)
  have HCB := hide hC
  have HL := hide hl
  have HB := hide al
  clear al hC hl
  go_enter Tryz.func29, Tryz.ntmps29
  go_upto_region 1 with fail
  generalize w.alloc (.cells #[.string nm, .slice ao T.length cap, .slice fo F.length fc, .slice co C.length cc] 26) = W0 at HX HB ⊢
  go_wp2_with fail
  go_loopw [3, 4] (fun z i wr => ∃ (j s : Nat), j ≤ C.length ∧ i = .int .i64 (j : Int) ∧ z = .int .i64 (s : Int) ∧ s ≤ 65535 * j ∧ Hid (s = cdL (C.take j)) ∧ Hid (wr = W0)) (fun _ i _ => C.length - (intOf i).toNat)
  case atStart => exact ⟨0, 0, by omega, rfl, rfl, by omega, hide rfl, hide rfl⟩
  case round =>
    obtain ⟨j, s, hj, rfl, rfl, hs, HS, HW⟩ := hrel
    have hW := unhide HW
    subst hW
    have c3 := (unhide HX).c 3 rfl
    by_cases hlt : j < C.length
    · have i1 : ((j : Nat) : Int) < ((C.length : Nat) : Int) := by omega
      by_cases hle : s ≤ 1048576
      · have i2 : ((s : Nat) : Int) ≤ 1048576 := by omega
        obtain ⟨⟨ca, xcc, cd⟩, HFJ⟩ : ∃ x, Hid (C[j]? = some x) := ⟨_, hide (List.getElem?_eq_getElem hlt)⟩
        have hcd : cd.length < 65536 := (unhide HL) _ (List.mem_of_getElem? (unhide HFJ))
        obtain ⟨b, off, rfl, hx0⟩ := (unhide HCB).below (unhide HB) j _ (unhide HFJ)
        have q0 := hx0.c0
        have HN : Hid (s + cd.length = cdL (C.take (j + 1))) := hide (by rw [cd_step (unhide HFJ), ← unhide HS])
        clear hx0 HS HFJ
        go_wp2
        go_roundw
        case rel => exact ⟨j + 1, s + cd.length, by omega, by go_num, by go_num, by omega, HN, hide trivial⟩
        case measure => simp [intOf]; omega
      · have i2 : ¬ ((s : Nat) : Int) ≤ 1048576 := by omega
        have hn : s ≤ cdL C := by rw [unhide HS]; exact cd_take C j
        have HN := hide hn
        clear HS hn
        go_wp2
        go_ret
        exact ⟨⟨s, rfl, unhide HN⟩, unhide HB⟩
    · have i1 : ¬ ((j : Nat) : Int) < ((C.length : Nat) : Int) := by omega
      have hn : s ≤ cdL C := by rw [unhide HS]; exact cd_take C j
      have HN := hide hn
      clear HS hn
      go_wp2
      go_ret
      exact ⟨⟨s, rfl, unhide HN⟩, unhide HB⟩
set_option maxHeartbeats 4000000 in
theorem refEncode_any (m : Md) (w : World) (h : MdOk w m) (hn : ∀ x ∈ m.C, x.ca = none → x.cc = 0) :
    Calls Tryz.prog 11 #[.agg #[.string m.nm, .slice m.ao m.T.length m.cap, .slice m.fo m.F.length m.fc, .slice m.co m.C.length m.cc]] w fun e w' => ∃ vb L er, e = .returned (.tuple #[vb, .int .i64 er]) ∧ OwnB w' w.heap.size vb L ∧ EncR m L er ∧ Below w.heap.size w w' := by
  have al := (Below.refl w.heap.size w).alloc (Nat.le_refl _) (.cells #[.string m.nm, .slice m.ao m.T.length m.cap, .slice m.fo m.F.length m.fc, .slice m.co m.C.length m.cc] 26)
  have HB := hide al
  have HX : Hid (Bx (w.alloc (.cells #[.string m.nm, .slice m.ao m.T.length m.cap, .slice m.fo m.F.length m.fc, .slice m.co m.C.length m.cc] 26)) w.heap.size 26 #[.string m.nm, .slice m.ao m.T.length m.cap, .slice m.fo m.F.length m.fc, .slice m.co m.C.length m.cc]) := hide (heap_alloc_new w _)
  have H := hide (h.below al)
  have HN := hide hn
  clear al h hn
  go_enter Tryz.func11, Tryz.ntmps11
  go_upto_region 1 with fail
  generalize (w.alloc (.cells #[.string m.nm, .slice m.ao m.T.length m.cap, .slice m.fo m.F.length m.fc, .slice m.co m.C.length m.cc] 26)) = W1 at HB HX H ⊢
  have m0 := (unhide HX).c 0 rfl
  have m1 := (unhide HX).c 1 rfl
  have m2 := (unhide HX).c 2 rfl
  have m3 := (unhide HX).c 3 rfl
  have HC := hide (refCheck16_any m W1 (unhide H))
  go_wp2_with fail
  refine (unhide HC).mono ?_
  rintro e W2 ⟨⟨n, er, rfl, hck⟩, hb⟩
  have HCK := hide hck
  have HB2 := hide ((unhide HB).trans (hb.mono (unhide HB).size))
  have HX2 := hide ((unhide HX).below hb)
  have H2 := hide ((unhide H).below hb)
  clear HC hck hb m0 m1 m2 m3 HB HX H
  by_cases h0 : er = 0
  rotate_left
  · have t0 : (er != 0) = true := bne_t h0
    have HR : Hid (EncR m [] er) := hide (Or.inl ⟨⟨n, unhide HCK⟩, h0, rfl⟩)
    clear h0
    go_wp2
    go_ret2
    exact ⟨.slice none 0 0, [], er, rfl, World.ownsRow_nil _ _ _ _, unhide HR, unhide HB2⟩
  obtain ⟨hgd, hn0⟩ := ck_good (by rw [h0] at HCK; exact unhide HCK)
  have HCZ : Hid (CkR m 0 0) := hide (by have := unhide HCK; rw [h0, hn0] at this; exact this)
  have HMW := hide (ckG_mdW (unhide H2) hgd (unhide HN))
  rw [h0]
  clear HCK hgd hn0 h0
  have hCl : m.C.length ≤ 64 := by
    have hv := (unhide HMW).v
    have hFl : m.F.length ≤ 64 := by have := hv.2.2.2.1; simpa [mcOf] using this
    rcases hv.2.2.2.2.2.1 with h6 | ⟨h6, _⟩
    · have : m.C = [] := by simpa [mcOf] using h6
      rw [this]; simp
    · have : m.C.length = m.F.length := by simpa [mcOf] using h6
      omega
  have hCc : ∀ x ∈ m.C, x.cd.length < 65536 := fun x hx => (unhide HMW).v.2.2.2.2.2.2 (bsC x) (List.mem_map_of_mem hx)
  have HC := hide (refSize_any m W2 (unhide H2).cts hCl hCc)
  have m0 := (unhide HX2).c 0 rfl
  have m1 := (unhide HX2).c 1 rfl
  have m2 := (unhide HX2).c 2 rfl
  have m3 := (unhide HX2).c 3 rfl
  clear hCl hCc
  go_wp2_with fail
  refine (unhide HC).mono ?_
  rintro e W3 ⟨⟨s, rfl, hs⟩, hb⟩
  have HSF : Hid (s ≤ (fileB (mcOf m)).length) := hide (Nat.le_trans hs (size_file (unhide HMW).v))
  have HB3 := hide ((unhide HB2).trans (hb.mono (unhide HB2).size))
  have HX3 := hide ((unhide HX2).below hb)
  have HMW3 : Hid (MdW W3 m) := hide ⟨(unhide HMW).ok.below hb, (unhide HMW).v, (unhide HMW).cd, (unhide HMW).nil⟩
  clear HC hs hb m0 m1 m2 m3 HB2 HX2 H2 HMW
  by_cases hbig : 1048576 < s
  · have i0 : ((s : Nat) : Int) > 1048576 := by omega
    have HR : Hid (EncR m [] 4) := hide (Or.inr (Or.inl ⟨unhide HCZ, Nat.lt_of_lt_of_le hbig (unhide HSF), rfl, rfl⟩))
    clear HSF hbig
    go_wp2
    go_ret2
    exact ⟨.slice none 0 0, [], 4, rfl, World.ownsRow_nil _ _ _ _, unhide HR, unhide HB3⟩
  have i0 : ¬ ((s : Nat) : Int) > 1048576 := by omega
  have m0 := (unhide HX3).c 0 rfl
  have m1 := (unhide HX3).c 1 rfl
  have m2 := (unhide HX3).c 2 rfl
  have m3 := (unhide HX3).c 3 rfl
  have HC := hide (refBody_any m W3 (unhide HMW3))
  clear HSF hbig
  go_wp2_with fail
  refine (unhide HC).mono ?_
  rintro e W4 ⟨v4, rfl, hr⟩
  have hl := md_len (unhide HMW3).v
  have HFE := hide (file_eq (unhide HMW3).v)
  obtain ⟨L, HLE⟩ : ∃ L, Hid (magB ++ mdW m = L) := ⟨_, hide rfl⟩
  rw [unhide HLE] at hr hl HFE
  have HB4 := hide ((unhide HB3).trans (hr.bel.mono (unhide HB3).size))
  have HSU : Hid (Calls Tryz.prog 30 #[v4] W4 fun e w' => ∃ v', e = .returned v' ∧ OwnB w' W4.heap.size v' (tsum L) ∧ Below W4.heap.size W4 w') := hide (by
    rcases hr.own.shape with ⟨hv4, hl4⟩ | ⟨g4, c4, hv4, _, _, _, _, hb4⟩
    · rw [hv4, hl4]
      exact summed_any none 0 [] W4 (BAt.nil _ _) (fun _ => ⟨rfl, rfl⟩) (by simp)
    · rw [hv4]
      exact summed_any _ c4 L W4 hb4 (fun h => by cases h) (by omega))
  clear HC hr hl HLE m0 m1 m2 m3 HX3 HMW3
  go_wp2_with fail
  refine (unhide HSU).mono ?_
  rintro e W5 ⟨v5, rfl, ho5, hb5⟩
  have HO5 : Hid (OwnB W5 w.heap.size v5 (fileB (mcOf m))) := hide (by rw [← unhide HFE]; exact ho5.mono (unhide HB4).size)
  have HB5 := hide ((unhide HB4).trans (hb5.mono (unhide HB4).size))
  obtain ⟨X, HXE⟩ : ∃ X, Hid (fileB (mcOf m) = X) := ⟨_, hide rfl⟩
  rw [unhide HXE] at HO5
  obtain ⟨a5, c5, hv5, _⟩ := (unhide HO5).at
  subst hv5
  clear HSU ho5 hb5 HFE
  by_cases hbig : 1048576 < X.length
  · have i1 : ((X.length : Nat) : Int) > 1048576 := by omega
    have HR : Hid (EncR m [] 4) := hide (Or.inr (Or.inl ⟨unhide HCZ, by rw [unhide HXE]; exact hbig, rfl, rfl⟩))
    clear hbig
    go_wp2
    go_ret2
    exact ⟨.slice none 0 0, [], 4, rfl, World.ownsRow_nil _ _ _ _, unhide HR, unhide HB5⟩
  · have i1 : ¬ ((X.length : Nat) : Int) > 1048576 := by omega
    have HR : Hid (EncR m X 0) := hide (Or.inr (Or.inr ⟨unhide HCZ, by rw [unhide HXE]; omega, rfl, (unhide HXE).symm⟩))
    clear hbig
    go_wp2
    go_ret2
    exact ⟨_, X, 0, rfl, unhide HO5, unhide HR, unhide HB5⟩
end Go.Proofs.YtibgfdjopikafaaGreatDoor
