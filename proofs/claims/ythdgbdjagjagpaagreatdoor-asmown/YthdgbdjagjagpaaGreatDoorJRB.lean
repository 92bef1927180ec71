/-
  Texts of contracts and plain lemmas, one behind another; each says at its head what it holds.
-/
import Derived.Test.YthdgbdjagjagpaaGreatDoorJRA
import Derived.Test.YthdgbdjagjagpaaGreatDoorFb1
import Derived.Test.YthdgbdjagjagpaaGreatDoorLaySpl
/-
  asm's reader: name. Conditions: lengths fit.
-/
namespace Go.Proofs.YthdgbdjagjagpaaGreatDoor
open Go.RowKit Go.Maps Go.WideMaps
set_option maxRecDepth 20000
set_option linter.unusedVariables false
set_option linter.unusedSimpArgs false

theorem lawSA : Keyed Tryz.prog 9 := string_keyed Tryz.underlying9
theorem zeroIA (w : World) : (zeroValue 3).run Tryz.prog w = .ok (.int .i64 0) w := by kernel_rfl
theorem zeroBA (w : World) : (zeroValue 5).run Tryz.prog w = .ok (.int .u8 0) w := by kernel_rfl
def LabsM (w : World) (ml : Nat) (L : List (ByteArray × Nat)) : Prop := ∃ D : DataW Unit, w.ownsMap Tryz.prog 9 (plainElem Tryz.prog 3) ml L.length D ∧ LabD D L
def OpsM (w : World) (mo : Nat) (k : Nat) : Prop := ∃ D : DataW Unit, w.ownsMap Tryz.prog 9 (plainElem Tryz.prog 5) mo k D ∧ OpsD D k
theorem LabsM.ne {w : World} {ml g : Nat} {L : List (ByteArray × Nat)} {t : TypeId} {cs : Array Value} (h : LabsM w ml L) (hx : Bx w g t cs) : ml ≠ g := fun e => by
  obtain ⟨D, ⟨es, clock, hb, _⟩, _⟩ := h
  subst e
  rw [hx] at hb
  cases hb
theorem LabsM.kq {w w' : World} {ml B : Nat} {ts : List TypeId} {gs : List Nat} {L : List (ByteArray × Nat)} (h : LabsM w ml L) (hk : Kq B ts gs w w') (hg : ml ∉ gs) : LabsM w' ml L := by
  obtain ⟨D, h1, h2⟩ := h
  exact ⟨D, map_kq h1 hk hg, h2⟩
theorem OpsM.kq {w w' : World} {ml B k : Nat} {ts : List TypeId} {gs : List Nat} (h : OpsM w ml k) (hk : Kq B ts gs w w') (hg : ml ∉ gs) : OpsM w' ml k := by
  obtain ⟨D, h1, h2⟩ := h
  exact ⟨D, map_kq h1 hk hg, h2⟩
def NameIs (w w' : World) (B g mo ml : Nat) (vl vj : Value) (size : Nat) (L : List (ByteArray × Nat)) (s : ByteArray) (e : Ending) : Prop :=
  if (findLb L s).isSome = true then e = .returned (.int .i64 230) ∧ Below w.heap.size w w'
  else e = .returned (.int .i64 0) ∧ Bx w' g 53 (rdC mo ml vl (size : Int) vj) ∧ LabsM w' ml (L ++ [(s, size)]) ∧ Kq B [] [ml] w w'
set_option maxHeartbeats 2000000 in
theorem name_any (B g mo ml : Nat) (vl vj : Value) (size : Nat) (L : List (ByteArray × Nat)) (s : ByteArray) (w : World) (hR : Bx w g 53 (rdC mo ml vl (size : Int) vj)) (hM : LabsM w ml L) (hB : B ≤ ml) (hs : s.size ≤ 1048576) (hn : L.length ≤ 1000000) (hz : size ≤ 4096) :
    Calls Tryz.prog 46 #[.pointer (some ⟨g, 0, none⟩), .string s] w fun e w' => NameIs w w' B g mo ml vl vj size L s e := by
  have HNE := hide (hM.ne hR)
  obtain ⟨D, hM, hL⟩ := hM
  have HR := hide hR
  have HM := hide hM
  have HL := hide hL
  have HBL := hide hB
  have HKEY := hide (keyOf_string_mk (P := Tryz.prog) Tryz.underlying9 (s := s) (by unfold maxLen; omega))
  have HWF : Hid ((Lit.int .i64 (size : Int)).wf = true) := hide (WalkArith.wf_i64 (by omega))
  have c1 := hR.c 1 (v := .map (some ml)) rfl
  have HHAS := hide (hL s).1
  have HN := hide hn
  clear hR hM hL hB hs hz hn
  cases hf : (findLb L s).isSome with
  | true =>
    have HF := hide hf
    rw [hf] at HHAS
    clear hf
    go_enter Tryz.func46, Tryz.ntmps46
    go_wp2_with (at_lookup; refine wpList_lookup_own_ok_int _ rfl _ _ 49 rfl 9 3 .i64 lawSA Tryz.underlying49 Tryz.underlying3 (zeroIA _) ml L.length D rfl (unhide HM) _ _ rfl (unhide HKEY) ?_; intro c hat hwc; clear hat hwc; rw [unhide HHAS])
    go_ret
    unfold NameIs
    rw [if_pos (unhide HF)]
    exact ⟨rfl, Below.refl _ _⟩
  | false =>
    have HF := hide hf
    rw [hf] at HHAS
    have HNO : Hid (findLb L s = none) := hide (by
      cases h : findLb L s with
      | none => rfl
      | some x => rw [h] at hf; cases hf)
    clear hf
    go_enter Tryz.func46, Tryz.ntmps46
    go_upto_region 5 with (at_lookup; refine wpList_lookup_own_ok_int _ rfl _ _ 49 rfl 9 3 .i64 lawSA Tryz.underlying49 Tryz.underlying3 (zeroIA _) ml L.length D rfl (unhide HM) _ _ rfl (unhide HKEY) ?_; intro c hat hwc; clear hat hwc; rw [unhide HHAS])
    go_cut [] (fun wx => Hid (Bx wx g 53 (rdC mo ml vl (size : Int) vj)) ∧ Hid (LabsM wx ml (L ++ [(s, size)])) ∧ Hid (Kq B [] [ml] w wx))
    case first =>
      have hS0 : Bx w.drew g 53 (rdC mo ml vl (size : Int) vj) := unhide HR
      have HMd : Hid (w.drew.ownsMap Tryz.prog 9 (plainElem Tryz.prog 3) ml L.length D) := HM
      have HKD : Hid (Kq B [] [ml] w w.drew) := hide ⟨belowD (Below.refl _ _) 1, fun _ _ h _ _ => h⟩
      refine wp_region_held_drew (S := fun w' => Bx w' g 53 (rdC mo ml vl (size : Int) vj)) (by kernel_rfl) hS0 (fun hS => ?_)
      clear hS0 HR HM c1
      generalize w.drew = Wd at hS HMd HKD ⊢
      refine wpAnyH_take (i := 0) (v := .pointer (some ⟨g, 0, none⟩)) rfl (by kernel_rfl) (by kernel_rfl) (by kernel_rfl) (fun _ _ _ h => h) (Or.inl ⟨by rfl, fun w _ => by go_simp⟩) hS ?_
      refine wpAnyH_take (i := 1) (v := .pointer (some ⟨g, 0, none⟩)) rfl (by kernel_rfl) (by kernel_rfl) (by kernel_rfl) (fun _ _ _ h => h) (Or.inl ⟨by rfl, fun w _ => by go_simp⟩) hS ?_
      go_simp
      refine wpAnyH_take (i := 2) (v := .pointer (some ⟨g, 1, none⟩)) rfl (by kernel_rfl) (by kernel_rfl) (by kernel_rfl) (fun _ _ _ h => h) (Or.inl ⟨by rfl, fun w _ => by go_simp⟩) hS ?_
      refine wpAnyH_take (i := 3) (v := .map (some ml)) rfl (by kernel_rfl) (by kernel_rfl) (by kernel_rfl) (fun _ _ _ h => h) (Or.inl ⟨by rfl, fun w hw => by have c1 := Bx.c hw 1 (v := .map (some ml)) rfl; go_simp⟩) hS ?_
      go_simp
      refine wpAnyH_take (i := 4) (v := .string s) rfl (by kernel_rfl) (by kernel_rfl) (by kernel_rfl) (fun _ _ _ h => h) (Or.inl ⟨by rfl, fun w _ => by go_simp⟩) hS ?_
      refine wpAnyH_take (i := 5) (v := .pointer (some ⟨g, 0, none⟩)) rfl (by kernel_rfl) (by kernel_rfl) (by kernel_rfl) (fun _ _ _ h => h) (Or.inl ⟨by rfl, fun w _ => by go_simp⟩) hS ?_
      go_simp
      refine wpAnyH_take (i := 6) (v := .pointer (some ⟨g, 0, none⟩)) rfl (by kernel_rfl) (by kernel_rfl) (by kernel_rfl) (fun _ _ _ h => h) (Or.inl ⟨by rfl, fun w _ => by go_simp⟩) hS ?_
      refine wpAnyH_take (i := 7) (v := .pointer (some ⟨g, 3, none⟩)) rfl (by kernel_rfl) (by kernel_rfl) (by kernel_rfl) (fun _ _ _ h => h) (Or.inl ⟨by rfl, fun w _ => by go_simp⟩) hS ?_
      go_simp
      refine wpAnyH_take (i := 8) (v := .int .i64 (size : Int)) rfl (by kernel_rfl) (by kernel_rfl) (by kernel_rfl) (fun _ _ _ h => h) (Or.inl ⟨by rfl, fun w hw => by have c1 := Bx.c hw 3 (v := .int .i64 (size : Int)) rfl; go_simp⟩) hS ?_
      refine wpAnyH_ready (rs := [9]) (by kernel_rfl) (by simp) ?_
      refine (AllReadyH.cons rfl (fun K hK => ?_) AllReadyH.nil)
      rw [if_pos (by rfl)]
      refine wp_mapUpdate_own (.tmp 20) (.tmp 21) (.tmp 25) 49 rfl 9 3 lawSA Tryz.underlying49 (plainElem Tryz.prog 3) ml L.length D rfl (unhide HMd) (by have := unhide HN; unfold maxLen; omega) (.string s) (.int .i64 (size : Int)) _ rfl rfl (unhide HKEY) (.lit (.int .i64 (size : Int))) [] (plainElem_int Tryz.underlying3 (unhide HWF)) ?_
      intro w1 hown1 hgrow1
      have HR1 : Hid (Bx w1 g 53 (rdC mo ml vl (size : Int) vj)) := hide (Bx.grown hS hgrow1 (fun e => unhide HNE (by injection e)))
      have HM1 : Hid (LabsM w1 ml (L ++ [(s, size)])) := hide ⟨_, by rw [List.length_append]; exact hown1, (unhide HL).put (unhide HMd).isMap s size (unhide HNO)⟩
      have HK1 : Hid (Kq B [] [ml] w w1) := hide ((unhide HKD).trans (by
        refine Kq.of_grown hgrow1 ?_ (fun k hk => ?_)
        · obtain ⟨es, clock, hb, _⟩ := unhide HMd
          have := (Array.getElem?_eq_some_iff.1 hb).1
          have := unhide HBL
          omega
        · injection hk with hk
          subst hk
          exact ⟨unhide HBL, Or.inl (by simp)⟩))
      refine hK.out _ _ (unhide HR1) (fun hS1 => ?_)
      clear hK K hown1 hgrow1
      refine wpAnyH_done (by kernel_rfl) ?_ _
      go_wp2_with fail
      go_meet
      exact ⟨HR1, HM1, HK1⟩
    case rest =>
    obtain ⟨HR1, HM1, HK1⟩ := hcut
    clear HR HM c1
    go_wp2_with fail
    go_ret
    unfold NameIs
    rw [if_neg (by rw [unhide HF]; simp)]
    exact ⟨rfl, unhide HR1, unhide HM1, unhide HK1⟩
end Go.Proofs.YthdgbdjagjagpaaGreatDoor

/-
  asm's reader as it lies in memory; put, name and jump against the plain state. Conditions: lengths fit; the widths are laid.
-/
namespace Go.Proofs.YthdgbdjagjagpaaGreatDoor
open Go.RowKit Go.Maps Go.WideMaps
set_option maxRecDepth 20000
set_option linter.unusedVariables false
set_option linter.unusedSimpArgs false

def jmCells (x : Jm) : List Value := [.int .i64 (x.line : Int), .int .i64 (x.place : Int), .string x.name]
def jmVals (l : List Jm) : List Value := l.flatMap jmCells
def OwnJm (w : World) (base : Nat) (v : Value) (l : List Jm) : Prop := w.ownsRow base 101 3 v l.length (jmVals l)
theorem infoJm : (Tryz.prog.info? 101).map (fun i => (i.zero, i.size, i.bytes)) = some (some (.agg #[.int .i64 0, .int .i64 0, .string ⟨#[]⟩]), 3, 32) := by kernel_rfl
theorem OwnJm.nil (w : World) (base : Nat) : OwnJm w base (.slice none 0 0) [] := World.ownsRow_nil _ _ _ _
theorem OwnJm.slice {w : World} {base : Nat} {v : Value} {l : List Jm} (h : OwnJm w base v l) : ∃ ao cap, v = .slice ao l.length cap := by
  rcases h.2 with ⟨h1, h2⟩ | ⟨g, cap, cur, hv, _⟩
  · exact ⟨none, 0, by rw [h1, h2]⟩
  · exact ⟨_, cap, hv⟩
structure RdW (w : World) (B g mo ml : Nat) (st : Rs) (vl vj : Value) : Prop where
  box : Bx w g 53 (rdC mo ml vl (st.size : Int) vj)
  lst : OwnX w B vl st.list
  jmp : OwnJm w B vj st.jumps
  lab : LabsM w ml st.labs
  ops : OpsM w mo 34
  ne : mo ≠ ml
  bg : B ≤ g
  bl : B ≤ ml
  gl : 10 ≤ B
abbrev tsR : List TypeId := [72, 53, 101]
def RdIs (w w' : World) (B g mo ml : Nat) (r : Int × Rs) (e : Ending) : Prop :=
  e = .returned (.int .i64 r.1) ∧ Kq B tsR [ml] w w' ∧ (r.1 = 0 → ∃ vl vj, RdW w' B g mo ml r.2 vl vj)
theorem kqR {B : Nat} {w w' : World} {ml : Nat} (h : Kq B [72, 53] [] w w') : Kq B tsR [ml] w w' := h.mono (Nat.le_refl _) (fun t ht => by simp at ht ⊢; rcases ht with h | h <;> simp [h]) (fun g hg => by cases hg)
theorem kqN {B : Nat} {w w' : World} {ml : Nat} (h : Kq B [] [ml] w w') : Kq B tsR [ml] w w' := h.mono (Nat.le_refl _) (fun t ht => by cases ht) (fun g hg => hg)
theorem kqB {B : Nat} {w w' : World} {ml : Nat} (h : Below w.heap.size w w') (hB : B ≤ w.heap.size) : Kq B tsR [ml] w w' := Kq.of_below h hB
theorem RdW.size_le {w : World} {B g mo ml : Nat} {st : Rs} {vl vj : Value} (h : RdW w B g mo ml st vl vj) : B ≤ w.heap.size := by have := h.box.lt; have := h.bg; omega
theorem WidAt.kq {B : Nat} {ts : List TypeId} {gs : List Nat} {W W' : World} (h : WidAt W) (hk : Kq B ts gs W W') (hB : 10 ≤ B) : WidAt W' := fun op ho => by
  obtain ⟨h1, h2⟩ := h op ho
  exact ⟨(hk.bel.cell (p := ⟨1, op * 2, none⟩) (Nat.lt_of_lt_of_le (by decide : 1 < 10) hB)).trans h1, (hk.bel.cell (p := ⟨1, op * 2 + 1, none⟩) (Nat.lt_of_lt_of_le (by decide : 1 < 10) hB)).trans h2⟩
/-- The world grew below; nothing of the reader's was written. -/
theorem RdW.below {w w' : World} {B g mo ml : Nat} {st : Rs} {vl vj : Value} (h : RdW w B g mo ml st vl vj) (hb : Below w.heap.size w w') : RdW w' B g mo ml st vl vj := by
  have hk : Kq B [] [] w w' := Kq.of_below hb h.size_le
  exact ⟨h.box.below hb, own_kq h.lst hk (by simp) (by simp), own_kq h.jmp hk (by simp) (by simp), h.lab.kq hk (by simp), h.ops.kq hk (by simp), h.ne, h.bg, h.bl, h.gl⟩
theorem own_no {base g : Nat} {w : World} {e t : TypeId} {size n : Nat} {v : Value} {xs : List Value} {cs : Array Value} (h : w.ownsRow base e size v n xs) (hx : Bx w g t cs) (ht : e ≠ t) : v.ownBlock ≠ some g := fun e' => by
  obtain ⟨_, cs', t', fr, h2, h3⟩ := own_blockA h g e'
  rw [hx] at h2
  injection h2 with h2
  injection h2 with _ h2
  subst h2
  exact ht (List.mem_singleton.1 h3).symm
theorem putR_any (g mo ml B : Nat) (st : Rs) (vl vj : Value) (op : Nat) (a b : Int) (w : World) (h : RdW w B g mo ml st vl vj) (hW : WidAt w) (ho : op < 256) (hs1 : st.size ≤ 4096) (hl : st.list.length ≤ 5000) :
    Calls Tryz.prog 81 #[.pointer (some ⟨g, 0, none⟩), .agg #[.int .i64 0, .int .u8 (op : Int), .int .i64 a, .int .i64 b]] w fun e w' => RdIs w w' B g mo ml (putS st op a b) e := by
  refine (put_any g mo ml vl (st.size : Int) vj st.list op a b B w h.box h.lst h.bg hW ho (by omega) (by omega) hl).mono fun e w' hp => ?_
  unfold PutIs at hp
  unfold putS
  by_cases he : eE op a b ≠ 0
  · rw [if_pos he] at hp ⊢
    exact ⟨hp.1, kqB hp.2 h.size_le, fun e0 => absurd e0 he⟩
  · rw [if_neg he] at hp ⊢
    by_cases hb : 4096 < st.size + (eL op a b).length
    · rw [if_pos (by omega)] at hp ⊢
      exact ⟨hp.1, kqB hp.2 h.size_le, fun e0 => absurd e0 (show ¬ (4 : Int) = 0 by decide)⟩
    · rw [if_neg (by omega)] at hp ⊢
      obtain ⟨h1, vl', h2, h3, h4⟩ := hp
      refine ⟨h1, kqR h4, fun _ => ⟨vl', vj, by exact_mod_cast h2, h3, own_kq h.jmp h4 (by simp) (by decide), h.lab.kq h4 (by simp), h.ops.kq h4 (by simp), h.ne, h.bg, h.bl, h.gl⟩⟩
theorem nameR_any (g mo ml B : Nat) (st : Rs) (vl vj : Value) (s : ByteArray) (w : World) (h : RdW w B g mo ml st vl vj) (hs : s.size ≤ 1048576) (hn : st.labs.length ≤ 1000000) (hs1 : st.size ≤ 4096) :
    Calls Tryz.prog 46 #[.pointer (some ⟨g, 0, none⟩), .string s] w fun e w' => RdIs w w' B g mo ml (nameS st s) e := by
  refine (name_any B g mo ml vl vj st.size st.labs s w h.box h.lab h.bl hs hn hs1).mono fun e w' hp => ?_
  unfold NameIs at hp
  unfold nameS
  by_cases hf : (findLb st.labs s).isSome = true
  · rw [if_pos hf] at hp ⊢
    exact ⟨hp.1, kqB hp.2 h.size_le, fun e0 => absurd e0 (show ¬ (230 : Int) = 0 by decide)⟩
  · rw [if_neg hf] at hp ⊢
    obtain ⟨h1, h2, h3, h4⟩ := hp
    have hlo : ∀ {e : TypeId} {size n : Nat} {v : Value} {xs : List Value}, w.ownsRow B e size v n xs → ∀ k, v.ownBlock = some k → k ∉ [ml] := fun ho k hk hm => by
      have e : k = ml := by simpa using hm
      subst e
      obtain ⟨_, cs', t', fr, h2, h3⟩ := own_blockA ho k hk
      obtain ⟨D, ⟨es, clock, hb, _⟩, _⟩ := h.lab
      rw [h2] at hb
      cases hb
    exact ⟨h1, kqN h4, fun _ => ⟨vl, vj, h2, own_kq h.lst h4 (hlo h.lst) (by simp), own_kq h.jmp h4 (hlo h.jmp) (by simp), h3, h.ops.kq h4 (by simpa using h.ne), h.ne, h.bg, h.bl, h.gl⟩⟩
theorem jown_snoc {w : World} {B g0 cap g i : Nat} {t : TypeId} {cs : Array Value} {l : List Jm} {x : Jm} {v : Value} (h : w.ownsRow B 101 3 (.slice (some ⟨g0, 0, none⟩) (l.length + 1) cap) (l.length + 1) (jmVals l ++ jmCells x)) (hR : Bx w g t cs) (ht : 101 ≠ t) : OwnJm (w.setCell ⟨g, i, none⟩ v) B (.slice (some ⟨g0, 0, none⟩) (l.length + 1) cap) (l ++ [x]) := by
  have h2 := own_kq h (Kq.set (B := 0) (ts := [t]) (gs := []) hR (Nat.zero_le _) (by simp) i v) (by simp) (by simpa using ht)
  unfold OwnJm
  have e : jmVals (l ++ [x]) = jmVals l ++ jmCells x := by simp [jmVals]
  rw [e, List.length_append]
  exact h2
set_option maxHeartbeats 4000000 in
theorem jumpR_any (g mo ml B : Nat) (st : Rs) (vl vj : Value) (line op : Nat) (s : ByteArray) (w : World) (h : RdW w B g mo ml st vl vj) (hW : WidAt w) (ho : op < 256) (hs : s.size ≤ 1048576) (hln : line ≤ 100000) (hs1 : st.size ≤ 4096) (hl : st.list.length ≤ 5000) (hj : st.jumps.length ≤ 100000) :
    Calls Tryz.prog 49 #[.pointer (some ⟨g, 0, none⟩), .int .i64 (line : Int), .int .u8 (op : Int), .string s] w fun e w' => RdIs w w' B g mo ml (jumpS st line op s) e := by
  have HN := hide (IsName_any s w (by unfold maxLen; omega))
  have HH := hide h
  have HWA := hide hW
  have HO := hide ho
  have HS1 := hide hs1
  have HL := hide hl
  have HJ := hide hj
  have hBs := h.size_le
  have HBS := hide hBs
  clear hW ho hs hs1 hBs
  cases hn : nameB s with
  | false =>
    rw [hn] at HN
    have HF := hide hn
    clear hn h hl hj hln
    go_enter Tryz.func49, Tryz.ntmps49
    go_wp2_with (go_at_call 79; refine (unhide HN).mono ?_; rintro e w' ⟨rfl, rfl⟩)
    go_ret
    have ej : jumpS st line op s = (231, st) := by unfold jumpS; rw [if_neg (by rw [unhide HF]; simp)]
    rw [ej]
    exact ⟨rfl, kqB (Below.refl _ _) (unhide HBS), fun e0 => absurd e0 (show ¬ (231 : Int) = 0 by decide)⟩
  | true =>
    rw [hn] at HN
    have HF := hide hn
    obtain ⟨oa, oc, rfl⟩ := OwnX.slice h.lst
    obtain ⟨ja, jc, rfl⟩ := OwnJm.slice h.jmp
    have hjl := hj
    have hll := hl
    clear hn hl hj
    have e1 : ∀ x, jumpS st line op s = x ↔ putS { st with jumps := st.jumps ++ [⟨line, st.list.length, s⟩] } op 0 0 = x := fun x => by unfold jumpS; rw [if_pos (unhide HF)]
    obtain ⟨res, HRES⟩ : ∃ r, Hid (jumpS st line op s = r) := ⟨_, hide rfl⟩
    rw [unhide HRES]
    have HP : Hid (putS { st with jumps := st.jumps ++ [⟨line, st.list.length, s⟩] } op 0 0 = res) := hide ((e1 _).1 (unhide HRES))
    clear e1 HRES h
    obtain ⟨i0, hi0, hz0, hz1, hz2⟩ := info_parts infoJm
    go_enter Tryz.func49, Tryz.ntmps49
    go_upto_region 4 with (go_at_call 79; refine (unhide HN).mono ?_; rintro e w' ⟨rfl, rfl⟩)
    go_cut [] (fun wx => Hid (∃ vj', RdW wx B g mo ml { st with jumps := st.jumps ++ [⟨line, st.list.length, s⟩] } (.slice oa st.list.length oc) vj') ∧ Hid (Kq B tsR [ml] w' wx) ∧ Hid (WidAt wx))
    case first =>
      have hR0 := (unhide HH).box
      have hS0 : w'.drew.cell? ⟨g, 2, none⟩ = some (.slice oa st.list.length oc) := hR0.c 2 (v := .slice oa st.list.length oc) rfl
      have HRd : Hid (Bx w'.drew g 53 (rdC mo ml (.slice oa st.list.length oc) (st.size : Int) (.slice ja st.jumps.length jc))) := hR0
      have HD : Hid (Below w'.heap.size w' w'.drew) := hide (belowD (Below.refl _ _) 1)
      have HRW : Hid (RdW w'.drew B g mo ml st (.slice oa st.list.length oc) (.slice ja st.jumps.length jc)) := hide ((unhide HH).below (unhide HD))
      have HKd : Hid (Kq B tsR [ml] w' w'.drew) := hide (kqB (unhide HD) (unhide HBS))
      have HWd : Hid (WidAt w'.drew) := hide ((unhide HWA).below (unhide HD))
      refine wp_region_held_drew (S := fun w' => w'.cell? ⟨g, 2, none⟩ = some (.slice oa st.list.length oc)) (by kernel_rfl) hS0 (fun hS => ?_)
      clear hS0 hR0 HH HWA HN HD
      generalize w'.drew = Wd at hS HRd HRW HKd HWd ⊢
      have c4 := (unhide HRd).c 4 (v := .slice ja st.jumps.length jc) rfl
      have hBd := (unhide HRW).size_le
      refine wpAnyH_take (i := 0) (v := .pointer (some ⟨g, 0, none⟩)) rfl (by kernel_rfl) (by kernel_rfl) (by kernel_rfl) (fun _ _ _ h => h) (Or.inl ⟨by rfl, fun w _ => by go_simp⟩) hS ?_
      refine wpAnyH_take (i := 1) (v := .pointer (some ⟨g, 0, none⟩)) rfl (by kernel_rfl) (by kernel_rfl) (by kernel_rfl) (fun _ _ _ h => h) (Or.inl ⟨by rfl, fun w _ => by go_simp⟩) hS ?_
      go_simp
      refine wpAnyH_take (i := 2) (v := .pointer (some ⟨g, 0, none⟩)) rfl (by kernel_rfl) (by kernel_rfl) (by kernel_rfl) (fun _ _ _ h => h) (Or.inl ⟨by rfl, fun w _ => by go_simp⟩) hS ?_
      refine wpAnyH_take (i := 3) (v := .pointer (some ⟨g, 4, none⟩)) rfl (by kernel_rfl) (by kernel_rfl) (by kernel_rfl) (fun _ _ _ h => h) (Or.inl ⟨by rfl, fun w _ => by go_simp⟩) hS ?_
      go_simp
      refine wpAnyH_take (i := 5) (v := .int .i64 (line : Int)) rfl (by kernel_rfl) (by kernel_rfl) (by kernel_rfl) (fun _ _ _ h => h) (Or.inl ⟨by rfl, fun w _ => by go_simp⟩) hS ?_
      refine wpAnyH_take (i := 6) (v := .pointer (some ⟨g, 0, none⟩)) rfl (by kernel_rfl) (by kernel_rfl) (by kernel_rfl) (fun _ _ _ h => h) (Or.inl ⟨by rfl, fun w _ => by go_simp⟩) hS ?_
      go_simp
      refine wpAnyH_take (i := 7) (v := .pointer (some ⟨g, 0, none⟩)) rfl (by kernel_rfl) (by kernel_rfl) (by kernel_rfl) (fun _ _ _ h => h) (Or.inl ⟨by rfl, fun w _ => by go_simp⟩) hS ?_
      refine wpAnyH_take (i := 8) (v := .pointer (some ⟨g, 2, none⟩)) rfl (by kernel_rfl) (by kernel_rfl) (by kernel_rfl) (fun _ _ _ h => h) (Or.inl ⟨by rfl, fun w _ => by go_simp⟩) hS ?_
      go_simp
      refine wpAnyH_take (i := 9) (v := .slice oa st.list.length oc) rfl (by kernel_rfl) (by kernel_rfl) (by kernel_rfl) (fun _ _ _ h => h) (Or.inl ⟨by rfl, fun w hw => by go_simp⟩) hS ?_
      refine wpAnyH_take (i := 10) (v := .int .i64 (st.list.length : Int)) rfl (by kernel_rfl) (by kernel_rfl) (by kernel_rfl) (fun _ _ _ h => h) (Or.inl ⟨by rfl, fun w _ => by go_simp⟩) hS ?_
      go_simp
      refine wpAnyH_take (i := 11) (v := .string s) rfl (by kernel_rfl) (by kernel_rfl) (by kernel_rfl) (fun _ _ _ h => h) (Or.inl ⟨by rfl, fun w _ => by go_simp⟩) hS ?_
      refine wpAnyH_take (i := 12) (v := .agg #[.int .i64 (line : Int), .int .i64 (st.list.length : Int), .string s]) rfl (by kernel_rfl) (by kernel_rfl) (by kernel_rfl) (fun _ _ _ h => h) (Or.inl ⟨by rfl, fun w _ => by go_simp⟩) hS ?_
      go_simp
      refine wpAnyH_ready (rs := [4, 13]) (by kernel_rfl) (by simp) ?_
      refine (AllReadyH.cons rfl (fun K hK => ?_) (AllReadyH.cons rfl (fun K hK => ?_) AllReadyH.nil))
      · go_simp
        refine hK.out _ _ hS (fun hS1 => ?_)
        clear hK K
        refine wpAnyH_ready (rs := [13]) (by kernel_rfl) (by simp) ?_
        refine (AllReadyH.cons rfl (fun K hK => ?_) AllReadyH.nil)
        go_simp
        have hSA : (Wd.alloc (.cells #[.int .i64 (line : Int), .int .i64 (st.list.length : Int), .string s] 101)).cell? ⟨g, 2, none⟩ = some (.slice oa st.list.length oc) := (Bx.below (unhide HRd) ((Below.refl Wd.heap.size Wd).alloc (Nat.le_refl _) _)).c 2 (v := .slice oa st.list.length oc) rfl
        refine hK.out _ _ hSA (fun hS2 => ?_)
        have HOd : Hid (World.ownsRow (Wd.alloc (.cells #[.int .i64 (line : Int), .int .i64 (st.list.length : Int), .string s] 101)) B 101 3 (.slice ja st.jumps.length jc) st.jumps.length (jmVals st.jumps)) := hide (World.ownsRow.alloc (unhide HRW).jmp _)
        clear hK K
        refine wpAnyH_ready (rs := [14]) (by kernel_rfl) (by simp) ?_
        refine AllReadyH.cons rfl (fun K hK => ?_) AllReadyH.nil
        rw [if_pos (by rfl)]
        refine wp_append_lies (w := (Wd.alloc (.cells #[.int .i64 (line : Int), .int .i64 (st.list.length : Int), .string s] 101))) _ _ 51 (by rfl) B 101 i0 _ 3 32 Tryz.underlying51 hi0 hz0 hz1 hz2 rfl (by omega) (.slice ja st.jumps.length jc) st.jumps.length (jmVals st.jumps) (by rfl) (unhide HOd) ⟨Wd.heap.size, 0, none⟩ 1 1 (jmCells ⟨line, st.list.length, s⟩) (by rfl) (by rfl) (World.news_of_block (cs := (jmCells ⟨line, st.list.length, s⟩).toArray) (t := 101) (fr := (0, 0)) (heap_alloc_new Wd _)) (by intro u hu; simp [jmCells] at hu; rcases hu with rfl | rfl | rfl <;> rfl) (by omega) (by unfold maxLen; omega) (by omega) (by simp; omega) (Wd.heap.size + 1) (by simp) ?_
        intro g3 cap3 w3 hown hgrow hat hlt3
        have HR3' : Hid (Bx w3 g 53 (rdC mo ml (.slice oa st.list.length oc) (st.size : Int) (.slice ja st.jumps.length jc))) := hide (Bx.grown (Bx.below (unhide HRd) ((Below.refl Wd.heap.size Wd).alloc (Nat.le_refl _) _)) hgrow (own_no (unhide HRW).jmp (unhide HRd) (by decide)))
        have HKA : Hid (Kq B [101] [] Wd w3) := hide ((Kq.of_below ((Below.refl Wd.heap.size Wd).alloc (Nat.le_refl _) _) (unhide HRW).size_le).trans (Kq.of_grown hgrow (by have := (unhide HRW).size_le; simp; omega) (fun k hk => by obtain ⟨h1, cs, t, fr, h2, h3⟩ := own_blockA (unhide HOd) k hk; exact ⟨h1, Or.inr ⟨cs, t, fr, h2, h3⟩⟩)))
        have k2 := (unhide HR3').c 2 (v := .slice oa st.list.length oc) rfl
        have k4 := (unhide HR3').c 4 (v := .slice ja st.jumps.length jc) rfl
        have f4 := (unhide HR3').f 4
        have HR4 : Hid (Bx (w3.setCell ⟨g, 4, none⟩ (.slice (some ⟨g3, 0, none⟩) (st.jumps.length + 1) cap3)) g 53 (rdC mo ml (.slice oa st.list.length oc) (st.size : Int) (.slice (some ⟨g3, 0, none⟩) (st.jumps.length + 1) cap3))) := hide ((unhide HR3').set 4 _ rfl)
        have HK4 : Hid (Kq B [101, 53] [] Wd (w3.setCell ⟨g, 4, none⟩ (.slice (some ⟨g3, 0, none⟩) (st.jumps.length + 1) cap3))) := hide (((unhide HKA).mono (Nat.le_refl _) (fun t ht => by simp at ht ⊢; exact Or.inl ht) (fun g hg => hg)).trans (Kq.set (gs := []) (unhide HR3') (unhide HRW).bg (by simp) 4 (.slice (some ⟨g3, 0, none⟩) (st.jumps.length + 1) cap3)))
        have HO4 : Hid (OwnJm (w3.setCell ⟨g, 4, none⟩ (.slice (some ⟨g3, 0, none⟩) (st.jumps.length + 1) cap3)) B (.slice (some ⟨g3, 0, none⟩) (st.jumps.length + 1) cap3) (st.jumps ++ [⟨line, st.list.length, s⟩])) := hide (jown_snoc hown (unhide HR3') (by decide))
        have HX4 : Hid (RdW (w3.setCell ⟨g, 4, none⟩ (.slice (some ⟨g3, 0, none⟩) (st.jumps.length + 1) cap3)) B g mo ml { st with jumps := st.jumps ++ [⟨line, st.list.length, s⟩] } (.slice oa st.list.length oc) (.slice (some ⟨g3, 0, none⟩) (st.jumps.length + 1) cap3)) := hide (by
          have hq := unhide HRW
          exact ⟨unhide HR4, own_kq hq.lst (unhide HK4) (by simp) (by decide), unhide HO4, hq.lab.kq (unhide HK4) (by simp), hq.ops.kq (unhide HK4) (by simp), hq.ne, hq.bg, hq.bl, hq.gl⟩)
        have HK5 : Hid (Kq B tsR [ml] w' (w3.setCell ⟨g, 4, none⟩ (.slice (some ⟨g3, 0, none⟩) (st.jumps.length + 1) cap3))) := hide ((unhide HKd).trans ((unhide HK4).mono (Nat.le_refl _) (fun t ht => by simp at ht ⊢; rcases ht with h | h <;> simp [h]) (fun g hg => by cases hg)))
        have HW5 := hide ((unhide HWd).kq (unhide HK4) (unhide HRW).gl)
        have hS8' := (unhide HR4).c 2 (v := .slice oa st.list.length oc) rfl
        refine hK.out _ _ k2 (fun hS7 => ?_)
        clear hK K hown hgrow hat hlt3
        refine wpAnyH_take (i := 15) (v := .pointer (some ⟨g, 0, none⟩)) rfl (by kernel_rfl) (by kernel_rfl) (by kernel_rfl) (fun _ _ _ h => h) (Or.inl ⟨by rfl, fun w _ => by go_simp⟩) hS7 ?_
        refine wpAnyH_take (i := 16) (v := .pointer (some ⟨g, 4, none⟩)) rfl (by kernel_rfl) (by kernel_rfl) (by kernel_rfl) (fun _ _ _ h => h) (Or.inl ⟨by rfl, fun w _ => by go_simp⟩) hS7 ?_
        refine wpAnyH_ready (rs := [17]) (by kernel_rfl) (by simp) ?_
        refine (AllReadyH.cons rfl (fun K hK => ?_) AllReadyH.nil)
        go_simp
        refine hK.out _ _ hS8' (fun hS8 => ?_)
        clear hK K
        refine wpAnyH_done (by kernel_rfl) ?_ _
        go_wp2_with fail
        go_meet
        exact ⟨⟨_, unhide HX4⟩, HK5, HW5⟩
      · go_simp
        have hSA : (Wd.alloc (.cells #[.int .i64 (line : Int), .int .i64 (st.list.length : Int), .string s] 101)).cell? ⟨g, 2, none⟩ = some (.slice oa st.list.length oc) := (Bx.below (unhide HRd) ((Below.refl Wd.heap.size Wd).alloc (Nat.le_refl _) _)).c 2 (v := .slice oa st.list.length oc) rfl
        have cA := (Bx.below (unhide HRd) ((Below.refl Wd.heap.size Wd).alloc (Nat.le_refl _) (.cells #[.int .i64 (line : Int), .int .i64 (st.list.length : Int), .string s] 101))).c 4 (v := .slice ja st.jumps.length jc) rfl
        refine hK.out _ _ hSA (fun hS1 => ?_)
        clear hK K
        refine wpAnyH_ready (rs := [4]) (by kernel_rfl) (by simp) ?_
        refine (AllReadyH.cons rfl (fun K hK => ?_) AllReadyH.nil)
        go_simp
        refine hK.out _ _ hSA (fun hS2 => ?_)
        have HOd : Hid (World.ownsRow (Wd.alloc (.cells #[.int .i64 (line : Int), .int .i64 (st.list.length : Int), .string s] 101)) B 101 3 (.slice ja st.jumps.length jc) st.jumps.length (jmVals st.jumps)) := hide (World.ownsRow.alloc (unhide HRW).jmp _)
        clear hK K
        refine wpAnyH_ready (rs := [14]) (by kernel_rfl) (by simp) ?_
        refine AllReadyH.cons rfl (fun K hK => ?_) AllReadyH.nil
        rw [if_pos (by rfl)]
        refine wp_append_lies (w := (Wd.alloc (.cells #[.int .i64 (line : Int), .int .i64 (st.list.length : Int), .string s] 101))) _ _ 51 (by rfl) B 101 i0 _ 3 32 Tryz.underlying51 hi0 hz0 hz1 hz2 rfl (by omega) (.slice ja st.jumps.length jc) st.jumps.length (jmVals st.jumps) (by rfl) (unhide HOd) ⟨Wd.heap.size, 0, none⟩ 1 1 (jmCells ⟨line, st.list.length, s⟩) (by rfl) (by rfl) (World.news_of_block (cs := (jmCells ⟨line, st.list.length, s⟩).toArray) (t := 101) (fr := (0, 0)) (heap_alloc_new Wd _)) (by intro u hu; simp [jmCells] at hu; rcases hu with rfl | rfl | rfl <;> rfl) (by omega) (by unfold maxLen; omega) (by omega) (by simp; omega) (Wd.heap.size + 1) (by simp) ?_
        intro g3 cap3 w3 hown hgrow hat hlt3
        have HR3' : Hid (Bx w3 g 53 (rdC mo ml (.slice oa st.list.length oc) (st.size : Int) (.slice ja st.jumps.length jc))) := hide (Bx.grown (Bx.below (unhide HRd) ((Below.refl Wd.heap.size Wd).alloc (Nat.le_refl _) _)) hgrow (own_no (unhide HRW).jmp (unhide HRd) (by decide)))
        have HKA : Hid (Kq B [101] [] Wd w3) := hide ((Kq.of_below ((Below.refl Wd.heap.size Wd).alloc (Nat.le_refl _) _) (unhide HRW).size_le).trans (Kq.of_grown hgrow (by have := (unhide HRW).size_le; simp; omega) (fun k hk => by obtain ⟨h1, cs, t, fr, h2, h3⟩ := own_blockA (unhide HOd) k hk; exact ⟨h1, Or.inr ⟨cs, t, fr, h2, h3⟩⟩)))
        have k2 := (unhide HR3').c 2 (v := .slice oa st.list.length oc) rfl
        have k4 := (unhide HR3').c 4 (v := .slice ja st.jumps.length jc) rfl
        have f4 := (unhide HR3').f 4
        have HR4 : Hid (Bx (w3.setCell ⟨g, 4, none⟩ (.slice (some ⟨g3, 0, none⟩) (st.jumps.length + 1) cap3)) g 53 (rdC mo ml (.slice oa st.list.length oc) (st.size : Int) (.slice (some ⟨g3, 0, none⟩) (st.jumps.length + 1) cap3))) := hide ((unhide HR3').set 4 _ rfl)
        have HK4 : Hid (Kq B [101, 53] [] Wd (w3.setCell ⟨g, 4, none⟩ (.slice (some ⟨g3, 0, none⟩) (st.jumps.length + 1) cap3))) := hide (((unhide HKA).mono (Nat.le_refl _) (fun t ht => by simp at ht ⊢; exact Or.inl ht) (fun g hg => hg)).trans (Kq.set (gs := []) (unhide HR3') (unhide HRW).bg (by simp) 4 (.slice (some ⟨g3, 0, none⟩) (st.jumps.length + 1) cap3)))
        have HO4 : Hid (OwnJm (w3.setCell ⟨g, 4, none⟩ (.slice (some ⟨g3, 0, none⟩) (st.jumps.length + 1) cap3)) B (.slice (some ⟨g3, 0, none⟩) (st.jumps.length + 1) cap3) (st.jumps ++ [⟨line, st.list.length, s⟩])) := hide (jown_snoc hown (unhide HR3') (by decide))
        have HX4 : Hid (RdW (w3.setCell ⟨g, 4, none⟩ (.slice (some ⟨g3, 0, none⟩) (st.jumps.length + 1) cap3)) B g mo ml { st with jumps := st.jumps ++ [⟨line, st.list.length, s⟩] } (.slice oa st.list.length oc) (.slice (some ⟨g3, 0, none⟩) (st.jumps.length + 1) cap3)) := hide (by
          have hq := unhide HRW
          exact ⟨unhide HR4, own_kq hq.lst (unhide HK4) (by simp) (by decide), unhide HO4, hq.lab.kq (unhide HK4) (by simp), hq.ops.kq (unhide HK4) (by simp), hq.ne, hq.bg, hq.bl, hq.gl⟩)
        have HK5 : Hid (Kq B tsR [ml] w' (w3.setCell ⟨g, 4, none⟩ (.slice (some ⟨g3, 0, none⟩) (st.jumps.length + 1) cap3))) := hide ((unhide HKd).trans ((unhide HK4).mono (Nat.le_refl _) (fun t ht => by simp at ht ⊢; rcases ht with h | h <;> simp [h]) (fun g hg => by cases hg)))
        have HW5 := hide ((unhide HWd).kq (unhide HK4) (unhide HRW).gl)
        have hS8' := (unhide HR4).c 2 (v := .slice oa st.list.length oc) rfl
        refine hK.out _ _ k2 (fun hS7 => ?_)
        clear hK K hown hgrow hat hlt3
        refine wpAnyH_take (i := 15) (v := .pointer (some ⟨g, 0, none⟩)) rfl (by kernel_rfl) (by kernel_rfl) (by kernel_rfl) (fun _ _ _ h => h) (Or.inl ⟨by rfl, fun w _ => by go_simp⟩) hS7 ?_
        refine wpAnyH_take (i := 16) (v := .pointer (some ⟨g, 4, none⟩)) rfl (by kernel_rfl) (by kernel_rfl) (by kernel_rfl) (fun _ _ _ h => h) (Or.inl ⟨by rfl, fun w _ => by go_simp⟩) hS7 ?_
        refine wpAnyH_ready (rs := [17]) (by kernel_rfl) (by simp) ?_
        refine (AllReadyH.cons rfl (fun K hK => ?_) AllReadyH.nil)
        go_simp
        refine hK.out _ _ hS8' (fun hS8 => ?_)
        clear hK K
        refine wpAnyH_done (by kernel_rfl) ?_ _
        go_wp2_with fail
        go_meet
        exact ⟨⟨_, unhide HX4⟩, HK5, HW5⟩
    case rest =>
    obtain ⟨HX, HK1, HW1⟩ := hcut
    clear HN HH HWA
    obtain ⟨vj', hx⟩ := unhide HX
    have HC := hide (putR_any g mo ml B { st with jumps := st.jumps ++ [⟨line, st.list.length, s⟩] } _ vj' op 0 0 wc hx (unhide HW1) (unhide HO) (unhide HS1) (unhide HL))
    rw [unhide HP] at HC
    clear hx HX HW1 HP
    go_wp2_with (go_at_call 81; refine (unhide HC).mono ?_; rintro e W ⟨rfl, hk, hr⟩)
    go_ret
    exact ⟨rfl, (unhide HK1).trans hk, hr⟩
end Go.Proofs.YthdgbdjagjagpaaGreatDoor

/-
  asm's reader: plain, an instruction whose operands are numbers. Conditions: lengths fit; the widths and strconv.ErrRange lie in their cells.
-/
namespace Go.Proofs.YthdgbdjagjagpaaGreatDoor
open Go.RowKit Go.Maps Go.WideMaps
set_option maxRecDepth 20000
set_option linter.unusedVariables false
set_option linter.unusedSimpArgs false

theorem RgAt.kq {B : Nat} {ts : List TypeId} {gs : List Nat} {W W' : World} (h : RgAt W) (hk : Kq B ts gs W W') (hB : 10 ≤ B) : RgAt W' := by
  obtain ⟨ev, h1, h2⟩ := h
  exact ⟨ev, (hk.bel.cell (p := ⟨7, 0, none⟩) (Nat.lt_of_lt_of_le (by decide : 7 < 10) hB)).trans h1, h2⟩
theorem MlAt.kq {B : Nat} {ts : List TypeId} {gs : List Nat} {W W' : World} (h : MlAt W) (hk : Kq B ts gs W W') (hB : 10 ≤ B) : MlAt W' := by
  obtain ⟨ev, h1⟩ := h
  exact ⟨ev, (hk.bel.cell (p := ⟨2, 0, none⟩) (Nat.lt_of_lt_of_le (by decide : 2 < 10) hB)).trans h1⟩
/-- A row of words from an address on. -/
def WsAt (w : World) (ao : Option Addr) (ws : List ByteArray) : Prop := ∀ (i : Nat) x, ws[i]? = some x → ∃ b off, ao = some ⟨b, off, none⟩ ∧ w.cell? ⟨b, off + i, none⟩ = some (.string x) ∧ x.size ≤ 1048576
theorem WsAt.below {w w' : World} {ao : Option Addr} {ws : List ByteArray} (h : WsAt w ao ws) (hb : Below w.heap.size w w') : WsAt w' ao ws := fun i x hx => by
  obtain ⟨b, off, e, hc, hz⟩ := h i x hx
  exact ⟨b, off, e, (hb.cell (p := ⟨b, off + i, none⟩) (World.block_lt_of_cell? w _ hc)).trans hc, hz⟩
def arrV (ws : List ByteArray) (k : Nat) (j : Nat) : Int := if j < k then valAt ws j else 0
theorem arrV_all (ws : List ByteArray) (j : Nat) : arrV ws ws.length j = valAt ws j := by
  unfold arrV
  split
  · rfl
  · rename_i h
    unfold valAt
    rw [List.getElem?_eq_none (by omega)]
theorem all_take {ws : List ByteArray} {k : Nat} {x : ByteArray} (h : (ws.take k).all numB = true) (hx : ws[k]? = some x) (hn : numB x = true) : (ws.take (k + 1)).all numB = true := by
  have e : ws.take (k + 1) = ws.take k ++ [x] := by rw [List.take_add_one, hx]; rfl
  rw [e, List.all_append, h]
  simp [hn]
theorem all_no {ws : List ByteArray} {k : Nat} {x : ByteArray} (hx : ws[k]? = some x) (hn : numB x = false) : ws.all numB = false := by
  rw [List.all_eq_false]
  exact ⟨x, List.mem_of_getElem? hx, by rw [hn]; simp⟩
set_option maxHeartbeats 4000000 in
theorem plainR_any (g mo ml B : Nat) (st : Rs) (vl vj : Value) (op : Nat) (ao : Option Addr) (cap : Nat) (ws : List ByteArray) (w : World) (h : RdW w B g mo ml st vl vj) (hW : WidAt w) (hR : RgAt w) (ho : op < 256) (hs1 : st.size ≤ 4096) (hl : st.list.length ≤ 5000) (hws : WsAt w ao ws) (hlen : ws.length ≤ 2) :
    Calls Tryz.prog 50 #[.pointer (some ⟨g, 0, none⟩), .int .u8 (op : Int), .slice ao ws.length cap] w fun e w' => RdIs w w' B g mo ml (plainS st op ws) e := by
  have HH := hide h
  have HWA := hide hW
  have HRG := hide hR
  have HO := hide ho
  have HS1 := hide hs1
  have HL := hide hl
  have HWS := hide hws
  have HBS := hide h.size_le
  have al : Below w.heap.size w (w.alloc (.cells #[.int .i64 0, .int .i64 0] 121)) := (Below.refl _ _).alloc (Nat.le_refl _) _
  have HB0 := hide al
  have HX0 : Hid (Bx (w.alloc (.cells #[.int .i64 0, .int .i64 0] 121)) w.heap.size 121 #[.int .i64 (arrV ws 0 0), .int .i64 (arrV ws 0 1)]) := hide (heap_alloc_new w _)
  clear h hW hR ho hs1 hl hws al
  go_enter Tryz.func50, Tryz.ntmps50
  go_upto_region 2 with fail
  generalize (w.alloc (.cells #[.int .i64 0, .int .i64 0] 121)) = w2 at HB0 HX0 ⊢
  go_wp2
  go_loopw [14] (fun i wq => ∃ k : Nat, k ≤ ws.length ∧ i = .int .i64 (k : Int) ∧ Hid (Bx wq w.heap.size 121 #[.int .i64 (arrV ws k 0), .int .i64 (arrV ws k 1)]) ∧ Hid (Below w.heap.size w wq) ∧ Hid ((ws.take k).all numB = true)) (fun i _ => ws.length - (intOf i).toNat)
  case atStart => exact ⟨0, by omega, rfl, HX0, HB0, hide rfl⟩
  case round =>
    clear HX0 HB0
    obtain ⟨k, hk, rfl, HX, HB, HA⟩ := hrel
    by_cases hlt : k < ws.length
    · have j1 : ((k : Nat) : Int) < ((ws.length : Nat) : Int) := by omega
      have hx := List.getElem?_eq_getElem hlt
      generalize ws[k] = x at hx
      obtain ⟨b, off, rfl, hc, hz⟩ := (unhide HWS).below (unhide HB) k x hx
      have HN := hide (number_any x wr ((unhide HRG).below (unhide HB)) hz)
      have HXX := hide hx
      clear hx hz
      cases hn : numB x with
      | false =>
        rw [hn] at HN
        have ep : plainS st op ws = (231, st) := by unfold plainS; rw [all_no (unhide HXX) hn]; rfl
        have HEP := hide ep
        clear hn ep
        go_wp2_with (go_at_call 82; refine (unhide HN).mono ?_; rintro e w' ⟨rfl, hb⟩)
        go_ret
        rw [unhide HEP]
        exact ⟨rfl, kqB ((unhide HB).trans (hb.mono (unhide HB).size)) (unhide HBS), fun e0 => absurd e0 (show ¬ (231 : Int) = 0 by decide)⟩
      | true =>
        rw [hn, if_pos rfl] at HN
        have HA2 := hide (all_take (unhide HA) (unhide HXX) hn)
        have hv : valAt ws k = valN x := by unfold valAt; rw [unhide HXX]
        have j2 : ((k : Nat) : Int) < 2 := by omega
        have hk01 : k = 0 ∨ k = 1 := by omega
        clear hn hk HA
        go_wp2_with fail
        refine (unhide HN).mono ?_
        rintro e w3 ⟨rfl, hb⟩
        have HX3 := (unhide HX).below hb
        have HB3 := hide ((unhide HB).trans (hb.mono (unhide HB).size))
        have hX := (unhide HX).lt
        clear hb HN HXX HX HB hc
        rcases hk01 with rfl | rfl
        · have c0 := HX3.c 0 (v := .int .i64 (arrV ws 0 0)) rfl
          have f0 := HX3.f 0
          have HX4 : Hid (Bx (w3.setCell ⟨w.heap.size, 0, none⟩ (.int .i64 (valN x))) w.heap.size 121 #[.int .i64 (arrV ws 1 0), .int .i64 (arrV ws 1 1)]) := hide (by
            refine HX3.set 0 _ ?_
            show (#[_, _] : Array Value) = #[_, _]
            rw [← hv]; rfl)
          have HB4 := hide ((unhide HB3).setCell (p := ⟨w.heap.size, 0, none⟩) (Nat.le_refl _) (.int .i64 (valN x)))
          clear hv HX3
          go_wp2
          go_roundw
          case rel => exact ⟨1, by omega, by go_num, HX4, HB4, HA2⟩
          case measure => simp [intOf]; omega
        · have c0 := HX3.c 1 (v := .int .i64 (arrV ws 1 1)) rfl
          have f0 := HX3.f 1
          have HX4 : Hid (Bx (w3.setCell ⟨w.heap.size, 1, none⟩ (.int .i64 (valN x))) w.heap.size 121 #[.int .i64 (arrV ws 2 0), .int .i64 (arrV ws 2 1)]) := hide (by
            refine HX3.set 1 _ ?_
            show (#[_, _] : Array Value) = #[_, _]
            rw [← hv]; rfl)
          have HB4 := hide ((unhide HB3).setCell (p := ⟨w.heap.size, 1, none⟩) (Nat.le_refl _) (.int .i64 (valN x)))
          clear hv HX3
          go_wp2
          go_roundw
          case rel => exact ⟨2, by omega, by go_num, HX4, HB4, HA2⟩
          case measure => simp [intOf]; omega
    · obtain rfl : k = ws.length := by omega
      rw [arrV_all, arrV_all] at HX
      have ep : plainS st op ws = putS st op (valAt ws 0) (valAt ws 1) := by
        have := unhide HA
        rw [List.take_length] at this
        unfold plainS; rw [this]; rfl
      have HEP := hide ep
      have c0 := (unhide HX).c 0 (v := .int .i64 (valAt ws 0)) rfl
      have c1 := (unhide HX).c 1 (v := .int .i64 (valAt ws 1)) rfl
      have HC := hide (putR_any g mo ml B st vl vj op (valAt ws 0) (valAt ws 1) wr ((unhide HH).below (unhide HB)) ((unhide HWA).below (unhide HB)) (unhide HO) (unhide HS1) (unhide HL))
      rw [← unhide HEP] at HC
      clear ep HA hlen HEP
      generalize valAt ws 0 = v0 at *
      generalize valAt ws 1 = v1 at *
      go_wp2_with (go_at_call 81; refine (unhide HC).mono ?_; rintro e W ⟨rfl, hkq, hr⟩)
      go_ret
      exact ⟨rfl, (kqB (unhide HB) (unhide HBS)).trans hkq, hr⟩
end Go.Proofs.YthdgbdjagjagpaaGreatDoor

/-
  asm's reader: read, a line's words. Conditions: lengths fit; the widths and strconv.ErrRange lie in their cells.
-/
namespace Go.Proofs.YthdgbdjagjagpaaGreatDoor
open Go.RowKit Go.Maps Go.WideMaps
set_option maxRecDepth 20000
set_option linter.unusedVariables false
set_option linter.unusedSimpArgs false

theorem look_ops {w : World} {mo : Nat} (h : OpsM w mo 34) (s : ByteArray) (hs : s.size ≤ 1048576) : ∃ c : Int, (Instr.lookup 48 (.map (some mo)) (.string s) true).run Tryz.prog w = .ok (.tuple #[.int .u8 c, .bool (opD s).2]) w ∧ ((opD s).2 = true → c = ((opD s).1 : Int)) := by
  obtain ⟨D, hM, hD⟩ := h
  have hkey := keyOf_string_mk (P := Tryz.prog) Tryz.underlying9 (s := s) (by unfold maxLen; omega)
  obtain ⟨v, ps, hrun, hv⟩ := hM.look_ok lawSA Tryz.underlying48 (zeroBA _) (zd := .lit (.int .u8 0)) (zp := []) (plainElem_int Tryz.underlying5 (by decide)) hkey
  obtain ⟨c, rfl, hc, hwc⟩ := plainElem_int_inv Tryz.underlying5 hv
  have ha := hD.all s
  rw [ha.1] at hrun
  refine ⟨c, hrun, fun h2 => ?_⟩
  have hc := congrArg Prod.fst hc
  simp only [] at hc
  rw [ha.2 h2] at hc
  injection hc with hc
  injection hc with _ hc
  exact hc.symm
theorem drewB (w : World) : Below w.heap.size w w.drew := belowD (Below.refl _ _) 1
set_option maxHeartbeats 8000000 in
theorem readR_any (g mo ml B : Nat) (st : Rs) (vl vj : Value) (line : Nat) (ao : Option Addr) (cap : Nat) (ws : List ByteArray) (w : World) (h : RdW w B g mo ml st vl vj) (hW : WidAt w) (hR : RgAt w) (hs1 : st.size ≤ 4096) (hl : st.list.length ≤ 5000) (hj : st.jumps.length ≤ 100000) (hn : st.labs.length ≤ 1000000) (hln : line ≤ 100000) (hws : WsAt w ao ws) (hlen : ws.length ≤ 281474976710656) (hcap : ws.length ≤ cap) :
    Calls Tryz.prog 17 #[.pointer (some ⟨g, 0, none⟩), .int .i64 (line : Int), .slice ao ws.length cap] w fun e w' => RdIs w w' B g mo ml (readS st line ws) e := by
  cases ws with
  | nil =>
    have hBs := h.size_le
    have HV := hide h
    clear hW hR hs1 hl hj hn hln hws hlen hcap h
    go_enter Tryz.func17, Tryz.ntmps17
    go_wp2
    go_ret
    exact ⟨rfl, kqB (Below.refl _ _) hBs, fun _ => ⟨vl, vj, unhide HV⟩⟩
  | cons w0 r =>
    obtain ⟨b, off, rfl, hc0, hz0⟩ := hws 0 w0 rfl
    rw [Nat.add_zero] at hc0
    obtain ⟨n, HNL⟩ : ∃ n, Hid ((w0 :: r).length = n) := ⟨_, hide rfl⟩
    have hrn : r.length + 1 = n := by rw [← unhide HNL]; rfl
    have HRN := hide hrn
    rw [unhide HNL] at hlen hcap ⊢
    have hn0 : 0 < n := by omega
    have hBs := h.size_le
    have HBS := hide hBs
    have HLO := hide (labelOf_any ⟨b, off, none⟩ n cap w0 w hc0 hn0 hz0)
    have HNM := hide (nameR_any g mo ml B st vl vj (stripB w0) w h (by have := stripB_size w0; omega) hn hs1)
    have ers := readS_cons st line w0 r
    have hlen' : (w0 :: r).length = n := unhide HNL
    rw [hlen'] at ers
    obtain ⟨lab, hlab⟩ : ∃ q, (colB w0 && decide (n = 1) && nameB (stripB w0)) = q := ⟨_, rfl⟩
    rw [hlab] at ers HLO
    cases lab with
    | true =>
      rw [if_pos rfl] at ers
      rw [← ers] at HNM
      clear ers hlab hlen' hrn hW hR hs1 hl hj hn hln hws hc0 hz0 h hcap
      go_enter Tryz.func17, Tryz.ntmps17
      go_wp2_with (first | (go_at_call 45; refine (unhide HLO).mono ?_; rintro e w' ⟨rfl, rfl⟩) | (go_at_call 46; refine (unhide HNM).mono ?_; rintro e w1 ⟨rfl, hk, hr⟩))
      go_ret
      exact ⟨rfl, hk, hr⟩
    | false =>
      rw [if_neg (by decide)] at ers
      have h2 := h.below (drewB w)
      obtain ⟨c, hrun, hcop⟩ := look_ops h2.ops w0 hz0
      have HRUN := hide hrun
      have HX2 := hide h2.box
      have HC2 : Hid (w.drew.cell? ⟨b, off, none⟩ = some (.string w0)) := hide (((drewB w).cell (p := ⟨b, off, none⟩) (World.block_lt_of_cell? w _ hc0)).trans hc0)
      have HV2 := hide h2
      have HWd := hide (hW.below (drewB w))
      have HRd := hide (hR.below (drewB w))
      have HWSd := hide (hws.below (drewB w))
      have HKd : Hid (Kq B tsR [ml] w w.drew) := hide (kqB (drewB w) hBs)
      have HERS := hide ers
      have HCOP := hide hcop
      have HL := hide hl
      have HJ := hide hj
      have HLN := hide hln
      have HS1 := hide hs1
      have HCAP := hide hcap
      clear HNM ers hlab hlen' hrn hrun h2 hc0 h hW hR hws hBs hcop hl hj hs1 hn hln hz0 hcap
      obtain ⟨q, HQ⟩ : ∃ q, Hid ((opD w0).2 = q) := ⟨_, hide rfl⟩
      rw [unhide HQ] at HRUN HERS HCOP
      go_enter Tryz.func17, Tryz.ntmps17
      go_upto_region 6 with (go_at_call 45; refine (unhide HLO).mono ?_; rintro e w' ⟨rfl, hw⟩; rw [hw]; clear hw)
      refine wp_region_held_drew (S := fun w' => w' = w.drew) (by kernel_rfl) rfl (fun hS => ?_)
      generalize w.drew = Wd at hS HRUN HX2 HC2 HV2 HWd HRd HWSd HKd ⊢
      have hrun := unhide HRUN
      have c0 := (unhide HX2).c 0 (v := .map (some mo)) rfl
      have c2 := unhide HC2
      refine wpAnyH_take (i := 0) (v := .pointer (some ⟨g, 0, none⟩)) rfl (by kernel_rfl) (by kernel_rfl) (by kernel_rfl) (fun _ _ _ h => h) (Or.inl ⟨by rfl, fun w hw => by go_simp⟩) hS ?_
      refine wpAnyH_take (i := 1) (v := .pointer (some ⟨g, 0, none⟩)) rfl (by kernel_rfl) (by kernel_rfl) (by kernel_rfl) (fun _ _ _ h => h) (Or.inl ⟨by rfl, fun w hw => by go_simp⟩) hS ?_
      go_simp
      refine wpAnyH_take (i := 2) (v := .pointer (some ⟨g, 0, none⟩)) rfl (by kernel_rfl) (by kernel_rfl) (by kernel_rfl) (fun _ _ _ h => h) (Or.inl ⟨by rfl, fun w hw => by go_simp⟩) hS ?_
      refine wpAnyH_take (i := 3) (v := .map (some mo)) rfl (by kernel_rfl) (by kernel_rfl) (by kernel_rfl) (fun _ _ _ h => h) (Or.inl ⟨by rfl, fun w hw => by subst hw; go_simp⟩) hS ?_
      go_simp
      refine wpAnyH_take (i := 4) (v := .slice (some ⟨b, off, none⟩) n cap) rfl (by kernel_rfl) (by kernel_rfl) (by kernel_rfl) (fun _ _ _ h => h) (Or.inl ⟨by rfl, fun w hw => by go_simp⟩) hS ?_
      refine wpAnyH_take (i := 5) (v := .pointer (some ⟨b, off, none⟩)) rfl (by kernel_rfl) (by kernel_rfl) (by kernel_rfl) (fun _ _ _ h => h) (Or.inl ⟨by rfl, fun w hw => by go_simp⟩) hS ?_
      go_simp
      refine wpAnyH_take (i := 6) (v := .string w0) rfl (by kernel_rfl) (by kernel_rfl) (by kernel_rfl) (fun _ _ _ h => h) (Or.inl ⟨by rfl, fun w hw => by subst hw; go_simp⟩) hS ?_
      refine wpAnyH_take (i := 7) (v := .tuple #[.int .u8 c, .bool q]) rfl (by kernel_rfl) (by kernel_rfl) (by kernel_rfl) (fun _ _ _ h => h) (Or.inl ⟨by rfl, fun w hw => by subst hw; go_simp⟩) hS ?_
      go_simp
      refine wpAnyH_take (i := 8) (v := .tuple #[.int .u8 c, .bool q]) rfl (by kernel_rfl) (by kernel_rfl) (by kernel_rfl) (fun _ _ _ h => h) (Or.inl ⟨by rfl, fun w hw => by go_simp⟩) hS ?_
      refine wpAnyH_take (i := 9) (v := .int .u8 c) rfl (by kernel_rfl) (by kernel_rfl) (by kernel_rfl) (fun _ _ _ h => h) (Or.inl ⟨by rfl, fun w hw => by go_simp⟩) hS ?_
      go_simp
      refine wpAnyH_take (i := 10) (v := .bool q) rfl (by kernel_rfl) (by kernel_rfl) (by kernel_rfl) (fun _ _ _ h => h) (Or.inl ⟨by rfl, fun w hw => by go_simp⟩) hS ?_
      refine wpAnyH_take (i := 11) (v := .int .u8 c) rfl (by kernel_rfl) (by kernel_rfl) (by kernel_rfl) (fun _ _ _ h => h) (Or.inl ⟨by rfl, fun w hw => by go_simp⟩) hS ?_
      go_simp
      refine wpAnyH_ready (rs := [12]) (by kernel_rfl) (by simp) ?_
      refine (AllReadyH.cons rfl (fun K hK => ?_) AllReadyH.nil)
      go_simp
      refine hK.out _ _ hS (fun hS1 => ?_)
      clear hK K
      refine wpAnyH_done (by kernel_rfl) ?_ _
      clear hS hS1 c0 c2 hrun HRUN HX2
      cases q with
      | false =>
        rw [if_pos (Or.inl rfl)] at HERS
        clear HCOP HC2
        go_wp2_with fail
        go_ret
        rw [unhide HERS]
        exact ⟨rfl, unhide HKd, fun e0 => absurd e0 (show ¬ (231 : Int) = 0 by decide)⟩
      | true =>
        obtain rfl := unhide HCOP rfl
        have ho34 := (opD_hit (unhide HQ)).1
        clear HCOP HQ HC2
        generalize (opD w0).1 = op at *
        have HOP := hide (operands_any op Wd (unhide HWd) (by omega))
        have HO34 := hide ho34
        have ht2 := opn_le op
        by_cases hne : r.length ≠ opnN op
        · rw [if_pos (Or.inr hne)] at HERS
          have t0 : ((n : Int) - 1 != (opnN op : Int)) = true := bne_t (by have := unhide HRN; omega)
          clear hne ho34
          go_wp2_with (go_at_call 47; refine (unhide HOP).mono ?_; rintro e W3 ⟨rfl, k, hw⟩)
          go_ret
          rw [unhide HERS]
          exact ⟨rfl, (unhide HKd).trans (kqB (below_dL _ _) (unhide HV2).size_le), fun e0 => absurd e0 (show ¬ (231 : Int) = 0 by decide)⟩
        · have hne' : r.length = opnN op := Classical.byContradiction hne
          rw [if_neg (by rw [hne']; simp)] at HERS
          have t0 : ((n : Int) - 1 != (opnN op : Int)) = false := bne_f (by have := unhide HRN; omega)
          have HLR := hide hne'
          clear hne hne' ho34 ht2
          go_wp2_with fail
          refine (unhide HOP).mono ?_
          rintro e W3 ⟨rfl, k, hw⟩
          have hb3 : Below Wd.heap.size Wd W3 := by rw [hw]; exact below_dL _ _
          have HV3 := hide ((unhide HV2).below hb3)
          have HW3 := hide ((unhide HWd).below hb3)
          have HR3 := hide ((unhide HRd).below hb3)
          have HS3 := hide ((unhide HWSd).below hb3)
          have HK3 := hide ((unhide HKd).trans (kqB hb3 (unhide HV2).size_le))
          have HJU := hide (Jumps_any op W3)
          clear hw hb3 HV2 HWd HRd HWSd HKd HOP
          obtain ⟨jq, HJQ⟩ : ∃ jq, Hid (jmpN op = jq) := ⟨_, hide rfl⟩
          have HJU : Hid (Calls Tryz.prog 48 #[.int .u8 (op : Int)] W3 fun e w' => e = .returned (.bool (jmpN op)) ∧ w' = W3) := HJU
          rw [unhide HJQ] at HERS HJU
          cases jq with
          | true =>
            rw [if_pos rfl] at HERS
            have h1 := (w_zero op (unhide HO34)).2.2 (unhide HJQ)
            have hr1 : r.length = 1 := by rw [unhide HLR, h1]
            obtain ⟨x, rfl⟩ : ∃ x, r = [x] := List.length_eq_one_iff.1 hr1
            obtain ⟨b', off', e', hc1, hz1⟩ := unhide HS3 1 x rfl
            injection e' with e'
            injection e' with e1 e2
            subst e1 e2
            have HC := hide (jumpR_any g mo ml B st vl vj line op x W3 (unhide HV3) (unhide HW3) (by have := unhide HO34; omega) hz1 (unhide HLN) (unhide HS1) (unhide HL) (unhide HJ))
            have HERS2 : Hid (readS st line [w0, x] = jumpS st line op x) := HERS
            rw [← unhide HERS2] at HC
            have i1 : (1 : Int) < (n : Int) := by have := unhide HRN; simp at this; omega
            clear HERS HERS2 h1 hr1 hz1 hlen HLR
            go_wp2_with (first | (go_at_call 48; refine (unhide HJU).mono ?_; rintro e w' ⟨rfl, hw⟩; rw [hw]; clear hw) | (go_at_call 49; refine (unhide HC).mono ?_; rintro e W ⟨rfl, hk, hr⟩))
            go_ret
            exact ⟨rfl, (unhide HK3).trans hk, hr⟩
          | false =>
            rw [if_neg (by decide)] at HERS
            have hcap := unhide HCAP
            have HWR : Hid (∀ i x, r[i]? = some x → W3.cell? ⟨b, off + 1 + i, none⟩ = some (.string x) ∧ x.size ≤ 1048576) := hide (fun i x hx => by
              obtain ⟨b', off', e', hc1, hz1⟩ := unhide HS3 (i + 1) x (by simpa using hx)
              injection e' with e'
              injection e' with e1 e2
              subst e1 e2
              refine ⟨?_, hz1⟩
              rw [show off + 1 + i = off + (i + 1) by omega]
              exact hc1)
            have hr2 : r.length ≤ 2 := by rw [unhide HLR]; exact opn_le op
            clear hlen HLR HS3
            by_cases hc1 : cap = 1
            · subst hc1
              obtain rfl : n = 1 := by omega
              have HC := hide (fun ao c => plainR_any g mo ml B st vl vj op ao c r W3 (unhide HV3) (unhide HW3) (unhide HR3) (by have := unhide HO34; omega) (unhide HS1) (unhide HL) (fun i x hx => by
                obtain rfl : r = [] := List.eq_nil_of_length_eq_zero (by have := unhide HRN; omega)
                cases hx) hr2)
              have hr0 : r.length = 0 := by have := unhide HRN; omega
              rw [hr0, ← unhide HERS] at HC
              clear HERS hr0 HWR hr2
              go_wp2_with (first | (go_at_call 48; refine (unhide HJU).mono ?_; rintro e w' ⟨rfl, hw⟩; rw [hw]; clear hw) | (go_at_call 50; refine (unhide HC _ _).mono ?_; rintro e W ⟨rfl, hk, hr⟩))
              go_ret
              exact ⟨rfl, (unhide HK3).trans hk, hr⟩
            · have HC := hide (plainR_any g mo ml B st vl vj op (some ⟨b, off + 1, none⟩) (cap - 1) r W3 (unhide HV3) (unhide HW3) (unhide HR3) (by have := unhide HO34; omega) (unhide HS1) (unhide HL) (fun i x hx => ⟨b, off + 1, rfl, (unhide HWR i x hx).1, (unhide HWR i x hx).2⟩) hr2)
              have hr0 : r.length = n - 1 := by have := unhide HRN; omega
              rw [hr0, ← unhide HERS] at HC
              clear HERS hr0 HWR hr2
              go_wp2_with (first | (go_at_call 48; refine (unhide HJU).mono ?_; rintro e w' ⟨rfl, hw⟩; rw [hw]; clear hw) | (go_at_call 50; refine (unhide HC).mono ?_; rintro e W ⟨rfl, hk, hr⟩))
              go_ret
              exact ⟨rfl, (unhide HK3).trans hk, hr⟩
end Go.Proofs.YthdgbdjagjagpaaGreatDoor

/-
  asm's reader: lead, the jumps led to their labels. Conditions: lengths fit.
-/
namespace Go.Proofs.YthdgbdjagjagpaaGreatDoor
open Go.RowKit Go.Maps Go.WideMaps
set_option maxRecDepth 20000
set_option linter.unusedVariables false
set_option linter.unusedSimpArgs false

theorem own_set {w : World} {B g cap n size i : Nat} {e : TypeId} {xs : List Value} (h : w.ownsRow B e size (.slice (some ⟨g, 0, none⟩) n cap) n xs) (hi : i < n * size) (u : Value) :
    (w.setCell ⟨g, i, none⟩ u).ownsRow B e size (.slice (some ⟨g, 0, none⟩) n cap) n (xs.set i u) ∧ w.cell? ⟨g, i, none⟩ = xs[i]? ∧ w.frozen? ⟨g, i, none⟩ = false ∧ ∃ cs, Bx w g e cs := by
  obtain ⟨h1, h2⟩ := h
  rcases h2 with ⟨h2, _⟩ | ⟨g', cap', cur, hv, hb, hh, hc1, hc2, hsz, htk⟩
  · cases h2
  · injection hv with hv _ hcap
    injection hv with hv
    injection hv with hv
    subst hv hcap
    have hic : i < cur.size := by rw [hsz]; exact Nat.lt_of_lt_of_le hi (Nat.mul_le_mul_right _ hc1)
    have hgo : cur.toList.length = cur.size := Array.length_toList
    refine ⟨⟨by rw [List.length_set]; exact h1, Or.inr ⟨g, cap, cur.setIfInBounds i u, rfl, hb, ?_, hc1, hc2, by rw [Array.size_setIfInBounds]; exact hsz, ?_⟩⟩, ?_, frozen_of_row _ _ _ _ _ hh, cur, hh⟩
    · simp only [World.setCell, Array.getElem?_modify, if_true, hh]
      rfl
    · rw [Array.toList_setIfInBounds, List.take_set, htk]
    · rw [cell_of_row _ _ _ _ _ _ hh, ← htk, List.getElem?_take_of_lt hi]
      simp
theorem xvals_setA : ∀ (l : List Ix) (k : Nat) (a : Int), xvals (setA l k a) = (xvals l).set (k * 4 + 2) (.int .i64 a)
  | [], k, a => by unfold setA; simp [xvals]
  | x :: t, 0, a => by rw [setA_zero]; rfl
  | x :: t, k + 1, a => by
    rw [setA_succ]
    show xcells x ++ xvals (setA t k a) = (xcells x ++ xvals t).set ((k + 1) * 4 + 2) _
    rw [xvals_setA t k a, List.set_append_right _ _ (by simp [xcells]; omega)]
    congr 2
    simp [xcells]; omega
theorem OwnX.setA {w : World} {B g cap : Nat} {l : List Ix} {k : Nat} (h : OwnX w B (.slice (some ⟨g, 0, none⟩) l.length cap) l) (hk : k < l.length) (a : Int) : OwnX (w.setCell ⟨g, k * 4 + 2, none⟩ (.int .i64 a)) B (.slice (some ⟨g, 0, none⟩) l.length cap) (setA l k a) := by
  have h2 := (own_set h (i := k * 4 + 2) (by omega) (.int .i64 a)).1
  unfold OwnX
  rw [xvals_setA, setA_len]
  exact h2
theorem look_labs {w : World} {ml : Nat} {L : List (ByteArray × Nat)} (h : LabsM w ml L) (s : ByteArray) (hs : s.size ≤ 1048576) : ∃ c : Int, (Instr.lookup 49 (.map (some ml)) (.string s) true).run Tryz.prog w = .ok (.tuple #[.int .i64 c, .bool (findLb L s).isSome]) w ∧ (∀ n, findLb L s = some n → c = (n : Int)) := by
  obtain ⟨D, hM, hD⟩ := h
  have hkey := keyOf_string_mk (P := Tryz.prog) Tryz.underlying9 (s := s) (by unfold maxLen; omega)
  obtain ⟨v, ps, hrun, hv⟩ := hM.look_ok lawSA Tryz.underlying49 (zeroIA _) (zd := .lit (.int .i64 0)) (zp := []) (plainElem_int Tryz.underlying3 (by decide)) hkey
  obtain ⟨c, rfl, hc, hwc⟩ := plainElem_int_inv Tryz.underlying3 hv
  have ha := hD s
  rw [ha.1] at hrun
  refine ⟨c, hrun, fun n h2 => ?_⟩
  have hc := congrArg Prod.fst hc
  simp only [] at hc
  rw [ha.2 n h2] at hc
  injection hc with hc
  injection hc with _ hc
  exact hc.symm
theorem OwnJm.at {w : World} {B : Nat} {ja : Option Addr} {jc : Nat} {J : List Jm} (h : OwnJm w B (.slice ja J.length jc) J) {k : Nat} {j : Jm} (hj : J[k]? = some j) : ∃ g, ja = some ⟨g, 0, none⟩ ∧ w.cell? ⟨g, k * 3, none⟩ = some (.int .i64 (j.line : Int)) ∧ w.cell? ⟨g, k * 3 + 1, none⟩ = some (.int .i64 (j.place : Int)) ∧ w.cell? ⟨g, k * 3 + 2, none⟩ = some (.string j.name) := by
  have hk : k < J.length := (List.getElem?_eq_some_iff.1 hj).1
  obtain ⟨g, rfl⟩ : ∃ g, ja = some ⟨g, 0, none⟩ := by
    rcases h.2 with ⟨_, h2⟩ | ⟨g', cap', cur, hv, _⟩
    · omega
    · injection hv with hv; exact ⟨g', hv⟩
  have hx : ∀ (J : List Jm) (k : Nat) (j : Jm), J[k]? = some j → (jmVals J)[k * 3]? = some (.int .i64 (j.line : Int)) ∧ (jmVals J)[k * 3 + 1]? = some (.int .i64 (j.place : Int)) ∧ (jmVals J)[k * 3 + 2]? = some (.string j.name) := by
    intro J
    induction J with
    | nil => intro k j h; simp at h
    | cons y t ih =>
      intro k j h
      cases k with
      | zero =>
        have e : y = j := by simpa using h
        subst e
        exact ⟨rfl, rfl, rfl⟩
      | succ k =>
        obtain ⟨h1, h2, h3⟩ := ih k j (by simpa using h)
        have e : jmVals (y :: t) = jmCells y ++ jmVals t := by simp [jmVals]
        rw [e]
        refine ⟨?_, ?_, ?_⟩
        · rw [List.getElem?_append_right (by simp [jmCells]; omega), ← h1]; congr 1; simp [jmCells]; omega
        · rw [List.getElem?_append_right (by simp [jmCells]; omega), ← h2]; congr 1; simp [jmCells]; omega
        · rw [List.getElem?_append_right (by simp [jmCells]; omega), ← h3]; congr 1; simp [jmCells]; omega
  obtain ⟨h1, h2, h3⟩ := hx J k j hj
  have hs := fun i (hi : i < J.length * 3) => (own_set h (i := i) hi (.int .i64 0)).2.1
  exact ⟨g, rfl, (hs _ (by omega)).trans h1, (hs _ (by omega)).trans h2, (hs _ (by omega)).trans h3⟩
theorem lead_none {labs : List (ByteArray × Nat)} {size : Nat} {J : List Jm} {l : List Ix} {k : Nat} {j : Jm} (hj : J[k]? = some j) (h : findLb labs j.name = none) : leadS labs size (J.drop k) l = (j.line, 230, l) := by
  obtain ⟨hk, e⟩ := List.getElem?_eq_some_iff.1 hj
  rw [List.drop_eq_getElem_cons hk, e, leadS, h]
theorem lead_end {labs : List (ByteArray × Nat)} {size n : Nat} {J : List Jm} {l : List Ix} {k : Nat} {j : Jm} (hj : J[k]? = some j) (h : findLb labs j.name = some n) (hn : n = size) : leadS labs size (J.drop k) l = (j.line, 230, l) := by
  obtain ⟨hk, e⟩ := List.getElem?_eq_some_iff.1 hj
  rw [List.drop_eq_getElem_cons hk, e, leadS, h]
  exact if_pos hn
theorem lead_step {labs : List (ByteArray × Nat)} {size n : Nat} {J : List Jm} {l : List Ix} {k : Nat} {j : Jm} (hj : J[k]? = some j) (h : findLb labs j.name = some n) (hn : n ≠ size) : leadS labs size (J.drop k) l = leadS labs size (J.drop (k + 1)) (setA l j.place (n : Int)) := by
  obtain ⟨hk, e⟩ := List.getElem?_eq_some_iff.1 hj
  rw [List.drop_eq_getElem_cons hk, e, leadS, h]
  exact if_neg hn
def LeadIs (w w' : World) (B g mo ml : Nat) (st : Rs) (r : Nat × Int × List Ix) (e : Ending) : Prop :=
  e = .returned (.tuple #[.int .i64 (r.1 : Int), .int .i64 r.2.1]) ∧ Kq B tsR [ml] w w' ∧ (r.2.1 = 0 → ∃ vl vj, RdW w' B g mo ml { st with list := r.2.2 } vl vj)
set_option maxHeartbeats 8000000 in
theorem lead_any (g mo ml B : Nat) (st : Rs) (vl vj : Value) (w : World) (h : RdW w B g mo ml st vl vj) (hs1 : st.size ≤ 4096) (hj : st.jumps.length ≤ 100000) (hjs : ∀ j ∈ st.jumps, j.place < st.list.length ∧ j.name.size ≤ 1048576 ∧ j.line ≤ 100000) (hl : st.list.length ≤ 5000) :
    Calls Tryz.prog 19 #[.pointer (some ⟨g, 0, none⟩)] w fun e w' => LeadIs w w' B g mo ml st (leadS st.labs st.size st.jumps st.list) e := by
  obtain ⟨labs, l0, size, J⟩ := st
  simp only at hs1 hj hjs hl ⊢
  have HJS := hide hjs
  obtain ⟨oa, oc, rfl⟩ := OwnX.slice h.lst
  obtain ⟨ja, jc, rfl⟩ := OwnJm.slice h.jmp
  simp only at h
  obtain ⟨res, HRES⟩ : ∃ r, Hid (leadS labs size J l0 = r) := ⟨_, hide rfl⟩
  rw [unhide HRES]
  have HS0 : Hid (res = leadS labs size (J.drop 0) l0) := hide (by rw [List.drop_zero]; exact (unhide HRES).symm)
  have HBS := hide h.size_le
  have HV := hide h
  have c4 := h.box.c 4 (v := .slice ja J.length jc) rfl
  have HLL := hide hl
  clear h hjs HRES hl
  go_enter Tryz.func19, Tryz.ntmps19
  go_wp2
  go_loopw [13] (fun i wq => ∃ (k : Nat) (l : List Ix), k ≤ J.length ∧ i = .int .i64 (k : Int) ∧ Hid (l.length = l0.length) ∧ Hid (RdW wq B g mo ml ⟨labs, l, size, J⟩ (.slice oa l0.length oc) (.slice ja J.length jc)) ∧ Hid (res = leadS labs size (J.drop k) l) ∧ Hid (Kq B tsR [ml] w wq)) (fun i _ => J.length - (intOf i).toNat)
  case atStart => exact ⟨0, l0, by omega, rfl, hide rfl, HV, HS0, hide (Kq.refl _ _ _ _)⟩
  case round =>
    clear HV HS0 c4
    obtain ⟨k, l, hk, rfl, HLN, HV, HR, HK⟩ := hrel
    by_cases hlt : k < J.length
    · have j1 : ((k : Nat) : Int) < ((J.length : Nat) : Int) := by omega
      have hx := List.getElem?_eq_getElem hlt
      have HIN := hide (unhide HJS _ (List.getElem_mem hlt))
      generalize J[k] = x at hx HIN
      obtain ⟨gj, rfl, q0, q1, q2⟩ := OwnJm.at (unhide HV).jmp hx
      have HXX := hide hx
      have al : Below wr.heap.size wr (wr.alloc (.cells #[.int .i64 (x.line : Int), .int .i64 (x.place : Int), .string x.name] 101)) := (Below.refl _ _).alloc (Nat.le_refl _) _
      have HX2 : Hid (Bx (wr.alloc (.cells #[.int .i64 (x.line : Int), .int .i64 (x.place : Int), .string x.name] 101)) wr.heap.size 101 #[.int .i64 (x.line : Int), .int .i64 (x.place : Int), .string x.name]) := hide (heap_alloc_new wr _)
      have HV2 := hide ((unhide HV).below al)
      have HK2 := hide ((unhide HK).trans (kqB al (unhide HV).size_le))
      have HBX : Hid (B ≤ wr.heap.size) := hide (unhide HV).size_le
      clear hx al HV HK
      go_upto_region 4 with fail
      generalize (wr.alloc (.cells #[.int .i64 (x.line : Int), .int .i64 (x.place : Int), .string x.name] 101)) = W2 at HX2 HV2 HK2 ⊢
      obtain ⟨bx, HBXE⟩ : ∃ bx, wr.heap.size = bx := ⟨_, rfl⟩
      rw [HBXE] at HX2 HBX ⊢
      clear HBXE q0 q1 q2
      obtain ⟨hplace, hname, hline⟩ := unhide HIN
      have HV3 := hide ((unhide HV2).below (drewB W2))
      have HX3 := hide ((unhide HX2).below (drewB W2))
      have HK3 : Hid (Kq B tsR [ml] w W2.drew) := hide ((unhide HK2).trans (kqB (drewB W2) (unhide HV2).size_le))
      obtain ⟨c, hrun, hcn⟩ := look_labs (unhide HV3).lab x.name hname
      have HRUN := hide hrun
      have HCN := hide hcn
      clear hrun hcn HV2 HX2 HK2 HIN hname
      obtain ⟨q, HQ⟩ : ∃ q, Hid ((findLb labs x.name).isSome = q) := ⟨_, hide rfl⟩
      have HRUN : Hid ((Instr.lookup 49 (.map (some ml)) (.string x.name) true).run Tryz.prog W2.drew = .ok (.tuple #[.int .i64 c, .bool q]) W2.drew) := hide (by rw [← unhide HQ]; exact unhide HRUN)
      refine wp_region_held_drew (S := fun w' => w' = W2.drew) (by kernel_rfl) rfl (fun hS => ?_)
      generalize W2.drew = Wd at hS HRUN HV3 HX3 HK3 ⊢
      have hrun := unhide HRUN
      have c1 := (unhide HV3).box.c 1 (v := .map (some ml)) rfl
      have x2 := (unhide HX3).c 2 (v := .string x.name) rfl
      refine wpAnyH_take (i := 0) (v := .pointer (some ⟨g, 0, none⟩)) rfl (by kernel_rfl) (by kernel_rfl) (by kernel_rfl) (fun _ _ _ h => h) (Or.inl ⟨by rfl, fun w hw => by go_simp⟩) hS ?_
      refine wpAnyH_take (i := 1) (v := .pointer (some ⟨g, 0, none⟩)) rfl (by kernel_rfl) (by kernel_rfl) (by kernel_rfl) (fun _ _ _ h => h) (Or.inl ⟨by rfl, fun w hw => by go_simp⟩) hS ?_
      go_simp
      refine wpAnyH_take (i := 2) (v := .pointer (some ⟨g, 1, none⟩)) rfl (by kernel_rfl) (by kernel_rfl) (by kernel_rfl) (fun _ _ _ h => h) (Or.inl ⟨by rfl, fun w hw => by go_simp⟩) hS ?_
      refine wpAnyH_take (i := 3) (v := .map (some ml)) rfl (by kernel_rfl) (by kernel_rfl) (by kernel_rfl) (fun _ _ _ h => h) (Or.inl ⟨by rfl, fun w hw => by subst hw; go_simp⟩) hS ?_
      go_simp
      refine wpAnyH_take (i := 4) (v := .pointer (some ⟨bx, 2, none⟩)) rfl (by kernel_rfl) (by kernel_rfl) (by kernel_rfl) (fun _ _ _ h => h) (Or.inl ⟨by rfl, fun w hw => by go_simp⟩) hS ?_
      refine wpAnyH_take (i := 5) (v := .string x.name) rfl (by kernel_rfl) (by kernel_rfl) (by kernel_rfl) (fun _ _ _ h => h) (Or.inl ⟨by rfl, fun w hw => by subst hw; go_simp⟩) hS ?_
      go_simp
      refine wpAnyH_take (i := 6) (v := .tuple #[.int .i64 c, .bool q]) rfl (by kernel_rfl) (by kernel_rfl) (by kernel_rfl) (fun _ _ _ h => h) (Or.inl ⟨by rfl, fun w hw => by subst hw; go_simp⟩) hS ?_
      refine wpAnyH_take (i := 7) (v := .tuple #[.int .i64 c, .bool q]) rfl (by kernel_rfl) (by kernel_rfl) (by kernel_rfl) (fun _ _ _ h => h) (Or.inl ⟨by rfl, fun w hw => by go_simp⟩) hS ?_
      go_simp
      refine wpAnyH_take (i := 8) (v := .int .i64 c) rfl (by kernel_rfl) (by kernel_rfl) (by kernel_rfl) (fun _ _ _ h => h) (Or.inl ⟨by rfl, fun w hw => by go_simp⟩) hS ?_
      refine wpAnyH_take (i := 9) (v := .bool q) rfl (by kernel_rfl) (by kernel_rfl) (by kernel_rfl) (fun _ _ _ h => h) (Or.inl ⟨by rfl, fun w hw => by go_simp⟩) hS ?_
      go_simp
      refine wpAnyH_take (i := 10) (v := .int .i64 c) rfl (by kernel_rfl) (by kernel_rfl) (by kernel_rfl) (fun _ _ _ h => h) (Or.inl ⟨by rfl, fun w hw => by go_simp⟩) hS ?_
      refine wpAnyH_ready (rs := [11]) (by kernel_rfl) (by simp) ?_
      refine (AllReadyH.cons rfl (fun K hK => ?_) AllReadyH.nil)
      go_simp
      refine hK.out _ _ hS (fun hS1 => ?_)
      clear hK K
      refine wpAnyH_done (by kernel_rfl) ?_ _
      clear hS hS1 c1 x2 hrun HRUN
      have x0 := (unhide HX3).c 0 (v := .int .i64 (x.line : Int)) rfl
      have c3 := (unhide HV3).box.c 3 (v := .int .i64 (size : Int)) rfl
      cases q with
      | false =>
        have hno : findLb labs x.name = none := by
          have := unhide HQ
          cases hf : findLb labs x.name with
          | none => rfl
          | some y => rw [hf] at this; cases this
        have HRE : Hid (res = (x.line, 230, l)) := hide (by rw [unhide HR]; exact lead_none (unhide HXX) hno)
        clear hno HR HQ HCN hplace hline
        go_wp2
        go_ret2
        rw [unhide HRE]
        exact ⟨rfl, unhide HK3, fun e0 => absurd e0 (show ¬ (230 : Int) = 0 by decide)⟩
      | true =>
        obtain ⟨n, hfn⟩ : ∃ n, findLb labs x.name = some n := Option.isSome_iff_exists.1 (unhide HQ)
        obtain rfl := unhide HCN n hfn
        by_cases hns : n = size
        · have HRE : Hid (res = (x.line, 230, l)) := hide (by rw [unhide HR]; exact lead_end (unhide HXX) hfn hns)
          have t0 : ((n : Int) == (size : Int)) = true := beq_t (by omega)
          clear hfn hns HR HQ HCN hplace hline
          go_wp2
          go_ret2
          rw [unhide HRE]
          exact ⟨rfl, unhide HK3, fun e0 => absurd e0 (show ¬ (230 : Int) = 0 by decide)⟩
        · have HRE : Hid (res = leadS labs size (J.drop (k + 1)) (setA l x.place (n : Int))) := hide (by rw [unhide HR]; exact lead_step (unhide HXX) hfn hns)
          have t0 : ((n : Int) == (size : Int)) = false := beq_f (by omega)
          clear hfn hns HR HQ HCN hline
          go_upto_region 7 with fail
          have hlen := unhide HLN
          have HV4 := hide ((unhide HV3).below (drewB Wd))
          have HX4 := hide ((unhide HX3).below (drewB Wd))
          have HK4 : Hid (Kq B tsR [ml] w Wd.drew) := hide ((unhide HK3).trans (kqB (drewB Wd) (unhide HV3).size_le))
          refine wp_region_held_drew (S := fun w' => w'.cell? ⟨g, 2, none⟩ = some (.slice oa l0.length oc) ∧ w'.cell? ⟨bx, 1, none⟩ = some (.int .i64 (x.place : Int))) (by kernel_rfl) ⟨(unhide HV4).box.c 2 (v := .slice oa l0.length oc) rfl, (unhide HX4).c 1 (v := .int .i64 (x.place : Int)) rfl⟩ (fun hS => ?_)
          generalize Wd.drew = W5 at hS HV4 HX4 HK4 ⊢
          clear HV3 HX3 HK3 c3 x0
          have hlst : World.ownsRow W5 B 72 4 (.slice oa l0.length oc) l0.length (xvals l) := by
            have := (unhide HV4).lst
            unfold OwnX at this
            rw [hlen] at this
            exact this
          obtain ⟨gl, rfl⟩ : ∃ gl, oa = some ⟨gl, 0, none⟩ := by
            rcases hlst.2 with ⟨_, h2⟩ | ⟨g', cap', cur, hv, _⟩
            · omega
            · injection hv with hv; exact ⟨g', hv⟩
          obtain ⟨s1, s2, s3, ⟨lcs, s4⟩⟩ := own_set hlst (i := x.place * 4 + 2) (by omega) (.int .i64 (n : Int))
          have s2' : ∃ u, W5.cell? ⟨gl, x.place * 4 + 2, none⟩ = some u := by
            have hsz : x.place * 4 + 2 < (xvals l).length := by rw [xvals_length]; omega
            exact ⟨_, s2.trans (List.getElem?_eq_getElem hsz)⟩
          obtain ⟨u, s2'⟩ := s2'
          have HK6 : Hid (Kq B [72] [] W5 (W5.setCell ⟨gl, x.place * 4 + 2, none⟩ (.int .i64 (n : Int)))) := hide (Kq.set (gs := []) s4 (by
            rcases hlst.2 with ⟨h1, h2⟩ | ⟨g', cap', cur, hv, hb, _⟩
            · cases h1
            · injection hv with hv
              injection hv with hv
              injection hv with hv
              subst hv
              exact hb) (by simp) _ _)
          have HV6 : Hid (RdW (W5.setCell ⟨gl, x.place * 4 + 2, none⟩ (.int .i64 (n : Int))) B g mo ml ⟨labs, setA l x.place (n : Int), size, J⟩ (.slice (some ⟨gl, 0, none⟩) l0.length oc) (.slice (some ⟨gj, 0, none⟩) J.length jc)) := hide (by
            have hv := unhide HV4
            have hk := unhide HK6
            refine ⟨hv.box.kq hk (by simp) (by decide), ?_, own_kq hv.jmp hk (by simp) (by decide), hv.lab.kq hk (by simp), hv.ops.kq hk (by simp), hv.ne, hv.bg, hv.bl, hv.gl⟩
            show OwnX _ B _ (setA l x.place (n : Int))
            have h8 := OwnX.setA (w := W5) (B := B) (g := gl) (cap := oc) (l := l) (k := x.place) (by rw [hlen]; exact (by have := (unhide HV4).lst; exact this)) (by rw [hlen]; exact hplace) (n : Int)
            rw [hlen] at h8
            exact h8)
          have HK7 : Hid (Kq B tsR [ml] w (W5.setCell ⟨gl, x.place * 4 + 2, none⟩ (.int .i64 (n : Int)))) := hide ((unhide HK4).trans ((unhide HK6).mono (Nat.le_refl _) (fun t ht => by simp at ht ⊢; exact Or.inl ht) (fun g hg => by cases hg)))
          have hSS : (W5.setCell ⟨gl, x.place * 4 + 2, none⟩ (.int .i64 (n : Int))).cell? ⟨g, 2, none⟩ = some (.slice (some ⟨gl, 0, none⟩) l0.length oc) ∧ (W5.setCell ⟨gl, x.place * 4 + 2, none⟩ (.int .i64 (n : Int))).cell? ⟨bx, 1, none⟩ = some (.int .i64 (x.place : Int)) := ⟨(unhide HV6).box.c 2 (v := .slice (some ⟨gl, 0, none⟩) l0.length oc) rfl, ((unhide HX4).kq (unhide HK6) (by simp) (by decide)).c 1 (v := .int .i64 (x.place : Int)) rfl⟩
          have HLN2 : Hid ((setA l x.place (n : Int)).length = l0.length) := hide (by rw [setA_len]; exact hlen)
          have i0 : (x.place : Int) < (l0.length : Int) := by omega
          have i1 : (0 : Int) ≤ (x.place : Int) := by omega
          have hll0 := unhide HLL
          have e4 : ((x.place : Int) * 4).toNat = x.place * 4 := by omega
          clear s1 s2 s4 hlst hlen HLN HV4 HX4 HK4 hplace HK6
          refine wpAnyH_take (i := 0) (v := .pointer (some ⟨g, 0, none⟩)) rfl (by kernel_rfl) (by kernel_rfl) (by kernel_rfl) (fun _ _ _ h => h) (Or.inl ⟨by rfl, fun w hw => by go_simp⟩) hS ?_
          refine wpAnyH_take (i := 1) (v := .pointer (some ⟨g, 0, none⟩)) rfl (by kernel_rfl) (by kernel_rfl) (by kernel_rfl) (fun _ _ _ h => h) (Or.inl ⟨by rfl, fun w hw => by go_simp⟩) hS ?_
          go_simp
          refine wpAnyH_take (i := 2) (v := .pointer (some ⟨g, 2, none⟩)) rfl (by kernel_rfl) (by kernel_rfl) (by kernel_rfl) (fun _ _ _ h => h) (Or.inl ⟨by rfl, fun w hw => by go_simp⟩) hS ?_
          refine wpAnyH_take (i := 3) (v := .slice (some ⟨gl, 0, none⟩) l0.length oc) rfl (by kernel_rfl) (by kernel_rfl) (by kernel_rfl) (fun _ _ _ h => h) (Or.inl ⟨by rfl, fun w hw => by have h1 := hw.1; go_simp⟩) hS ?_
          go_simp
          refine wpAnyH_take (i := 4) (v := .pointer (some ⟨bx, 1, none⟩)) rfl (by kernel_rfl) (by kernel_rfl) (by kernel_rfl) (fun _ _ _ h => h) (Or.inl ⟨by rfl, fun w hw => by go_simp⟩) hS ?_
          refine wpAnyH_take (i := 5) (v := .int .i64 (x.place : Int)) rfl (by kernel_rfl) (by kernel_rfl) (by kernel_rfl) (fun _ _ _ h => h) (Or.inl ⟨by rfl, fun w hw => by have h1 := hw.2; go_simp⟩) hS ?_
          go_simp
          refine wpAnyH_take (i := 6) (v := .int .i64 (n : Int)) rfl (by kernel_rfl) (by kernel_rfl) (by kernel_rfl) (fun _ _ _ h => h) (Or.inl ⟨by rfl, fun w hw => by go_simp⟩) hS ?_
          refine wpAnyH_take (i := 7) (v := .pointer (some ⟨gl, x.place * 4, none⟩)) rfl (by kernel_rfl) (by kernel_rfl) (by kernel_rfl) (fun _ _ _ h => h) (Or.inl ⟨by rfl, fun w hw => by go_simp⟩) hS ?_
          go_simp
          refine wpAnyH_take (i := 8) (v := .pointer (some ⟨gl, x.place * 4 + 2, none⟩)) rfl (by kernel_rfl) (by kernel_rfl) (by kernel_rfl) (fun _ _ _ h => h) (Or.inl ⟨by rfl, fun w hw => by go_simp⟩) hS ?_
          refine wpAnyH_ready (rs := [9]) (by kernel_rfl) (by simp) ?_
          refine (AllReadyH.cons rfl (fun K hK => ?_) AllReadyH.nil)
          go_simp
          refine hK.out _ _ hSS (fun hS1 => ?_)
          clear hK K
          refine wpAnyH_done (by kernel_rfl) ?_ _
          clear hS hS1 hSS s2' s3
          go_wp2
          go_roundw
          case rel => exact ⟨k + 1, _, by omega, by go_num, HLN2, HV6, HRE, HK7⟩
          case measure => simp [intOf]; omega
    · obtain rfl : k = J.length := by omega
      have HRE : Hid (res = (0, 0, l)) := hide (by rw [unhide HR, List.drop_length]; rfl)
      clear HR
      go_wp2
      go_ret2
      rw [unhide HRE]
      exact ⟨rfl, unhide HK, fun _ => ⟨_, _, unhide HV⟩⟩
end Go.Proofs.YthdgbdjagjagpaaGreatDoor

/-
  asm's reader: newReader. Conditions: the words lie in their cells.
-/
namespace Go.Proofs.YthdgbdjagjagpaaGreatDoor
open Go.RowKit Go.Maps Go.WideMaps
set_option maxRecDepth 20000
set_option linter.unusedVariables false
set_option linter.unusedSimpArgs false

def RdNew (w w' : World) (e : Ending) : Prop := ∃ g mo ml, e = .returned (.pointer (some ⟨g, 0, none⟩)) ∧ Below w.heap.size w w' ∧ RdW w' w.heap.size g mo ml ⟨[], [], 0, []⟩ (.slice none 0 0) (.slice none 0 0)
set_option maxHeartbeats 4000000 in
theorem newReader_any (w : World) (hC : WordsC w) (hg : 10 ≤ w.heap.size) : Calls Tryz.prog 15 #[] w fun e w' => RdNew w w' e := by
  have hmm := @run_makeMap Tryz.prog
  have HC := hide hC
  have HG := hide hg
  have hM0 : (w.alloc (.map #[] 0)).ownsMap Tryz.prog 9 (plainElem (H := Unit) Tryz.prog 5) w.heap.size 0 (.map []) := World.ownsMap_made _ _ _ _
  have hM1 : ((w.alloc (.map #[] 0)).alloc (.map #[] 0)).ownsMap Tryz.prog 9 (plainElem (H := Unit) Tryz.prog 3) (w.heap.size + 1) 0 (.map []) := by
    have := World.ownsMap_made (H := Unit) (w.alloc (.map #[] 0)) Tryz.prog 9 (plainElem Tryz.prog 3)
    rw [World.size_alloc] at this
    exact this
  have HMO : Hid (OpsM (((w.alloc (.map #[] 0)).alloc (.map #[] 0)).alloc (.cells (rdC w.heap.size (w.heap.size + 1) (.slice none 0 0) 0 (.slice none 0 0)) 53)) w.heap.size 0) := hide ⟨_, (hM0.alloc _).alloc _, opsD_nil⟩
  have HML : Hid (LabsM (((w.alloc (.map #[] 0)).alloc (.map #[] 0)).alloc (.cells (rdC w.heap.size (w.heap.size + 1) (.slice none 0 0) 0 (.slice none 0 0)) 53)) (w.heap.size + 1) []) := hide ⟨_, hM1.alloc _, labD_nil⟩
  have HX : Hid (Bx (((w.alloc (.map #[] 0)).alloc (.map #[] 0)).alloc (.cells (rdC w.heap.size (w.heap.size + 1) (.slice none 0 0) 0 (.slice none 0 0)) 53)) (w.heap.size + 2) 53 (rdC w.heap.size (w.heap.size + 1) (.slice none 0 0) 0 (.slice none 0 0))) := hide (by
    have e : ((w.alloc (.map #[] 0)).alloc (.map #[] 0)).heap.size = w.heap.size + 2 := by simp
    unfold Bx
    rw [← e]
    exact heap_alloc_new _ _)
  have HB : Hid (Below w.heap.size w (((w.alloc (.map #[] 0)).alloc (.map #[] 0)).alloc (.cells (rdC w.heap.size (w.heap.size + 1) (.slice none 0 0) 0 (.slice none 0 0)) 53))) := hide ((((Below.refl _ _).alloc (Nat.le_refl _) _).alloc (by simp) _).alloc (by simp; omega) _)
  unfold rdC at HMO HML HX HB
  clear hM0 hM1 hC hg
  go_enter Tryz.func15, Tryz.ntmps15
  go_upto_region 2 with fail
  generalize (((w.alloc (.map #[] 0)).alloc (.map #[] 0)).alloc (.cells #[.map (some w.heap.size), .map (some (w.heap.size + 1)), .slice none 0 0, .int .i64 0, .slice none 0 0] 53)) = w1 at HMO HML HX HB ⊢
  have HX : Hid (Bx w1 (w.heap.size + 2) 53 (rdC w.heap.size (w.heap.size + 1) (.slice none 0 0) 0 (.slice none 0 0))) := HX
  go_wp2
  go_loopw [7] (fun i wq => ∃ k : Nat, k ≤ 34 ∧ i = .int .u8 (k : Int) ∧ Hid (Bx wq (w.heap.size + 2) 53 (rdC w.heap.size (w.heap.size + 1) (.slice none 0 0) 0 (.slice none 0 0))) ∧ Hid (OpsM wq w.heap.size k) ∧ Hid (LabsM wq (w.heap.size + 1) []) ∧ Hid (Below w.heap.size w wq)) (fun i _ => 34 - (intOf i).toNat)
  case atStart => exact ⟨0, by omega, rfl, HX, HMO, HML, HB⟩
  case round =>
    clear HX HMO HML HB
    obtain ⟨k, hk, rfl, HX, HMO, HML, HB⟩ := hrel
    by_cases hlt : k < 34
    · have j1 : ((k : Nat) : Int) < 34 := by omega
      go_upto_region 6 with fail
      have HXd : Hid (Bx wr.drew (w.heap.size + 2) 53 (rdC w.heap.size (w.heap.size + 1) (.slice none 0 0) 0 (.slice none 0 0))) := HX
      have HMOd : Hid (OpsM wr.drew w.heap.size k) := hide ((unhide HMO).kq (B := 0) (ts := []) (gs := []) ⟨(drewB wr).mono (Nat.zero_le _), fun _ _ h _ _ => h⟩ (by simp))
      have HMLd : Hid (LabsM wr.drew (w.heap.size + 1) []) := hide ((unhide HML).kq (B := 0) (ts := []) (gs := []) ⟨(drewB wr).mono (Nat.zero_le _), fun _ _ h _ _ => h⟩ (by simp))
      have HBd : Hid (Below w.heap.size w wr.drew) := hide (belowD (unhide HB) 1)
      have hS0 : Bx wr.drew (w.heap.size + 2) 53 (rdC w.heap.size (w.heap.size + 1) (.slice none 0 0) 0 (.slice none 0 0)) := unhide HX
      refine wp_region_held_drew (S := fun w' => Bx w' (w.heap.size + 2) 53 (rdC w.heap.size (w.heap.size + 1) (.slice none 0 0) 0 (.slice none 0 0))) (by kernel_rfl) hS0 (fun hS => ?_)
      clear hS0 HX HMO HML HB
      generalize wr.drew = Wd at hS HXd HMOd HMLd HBd ⊢
      have HNM := hide (Name_any k Wd ((unhide HC).below (unhide HBd)) (by omega))
      refine wpAnyH_take (i := 0) (v := .pointer (some ⟨w.heap.size + 2, 0, none⟩)) rfl (by kernel_rfl) (by kernel_rfl) (by kernel_rfl) (fun _ _ _ h => h) (Or.inl ⟨by rfl, fun w hw => by go_simp⟩) hS ?_
      refine wpAnyH_take (i := 1) (v := .pointer (some ⟨w.heap.size + 2, 0, none⟩)) rfl (by kernel_rfl) (by kernel_rfl) (by kernel_rfl) (fun _ _ _ h => h) (Or.inl ⟨by rfl, fun w hw => by go_simp⟩) hS ?_
      go_simp
      refine wpAnyH_take (i := 2) (v := .pointer (some ⟨w.heap.size + 2, 0, none⟩)) rfl (by kernel_rfl) (by kernel_rfl) (by kernel_rfl) (fun _ _ _ h => h) (Or.inl ⟨by rfl, fun w hw => by go_simp⟩) hS ?_
      refine wpAnyH_take (i := 3) (v := .map (some w.heap.size)) rfl (by kernel_rfl) (by kernel_rfl) (by kernel_rfl) (fun _ _ _ h => h) (Or.inl ⟨by rfl, fun w hw => by have c1 := Bx.c hw 0 (v := .map (some _)) rfl; go_simp⟩) hS ?_
      go_simp
      refine wpAnyH_take (i := 4) (v := .int .u8 (k : Int)) rfl (by kernel_rfl) (by kernel_rfl) (by kernel_rfl) (fun _ _ _ h => h) (Or.inl ⟨by rfl, fun w hw => by go_simp⟩) hS ?_
      refine wpAnyH_take (i := 6) (v := .int .u8 (k : Int)) rfl (by kernel_rfl) (by kernel_rfl) (by kernel_rfl) (fun _ _ _ h => h) (Or.inl ⟨by rfl, fun w hw => by go_simp⟩) hS ?_
      go_simp
      refine wpAnyH_ready (rs := [5]) (by kernel_rfl) (by simp) ?_
      refine (AllReadyH.cons rfl (fun K hK => ?_) AllReadyH.nil)
      go_simp
      refine (unhide HNM).mono ?_
      rintro e w2 ⟨rfl, hw⟩
      rw [hw]
      clear hw
      refine hK.out _ _ hS (fun hS1 => ?_)
      clear hK K
      rw [nmD_wC hlt]
      obtain ⟨D, hD1, hD2⟩ := unhide HMOd
      refine wpAnyH_ready (rs := [7]) (by kernel_rfl) (by simp) ?_
      refine (AllReadyH.cons rfl (fun K hK => ?_) AllReadyH.nil)
      rw [if_pos (by rfl)]
      have hsz : (wC k).size ≤ 10 := by
        have hall : ∀ k, k < 34 → (wC k).size ≤ 10 := by decide +kernel
        exact hall k hlt
      have HKEY := hide (keyOf_string_mk (P := Tryz.prog) Tryz.underlying9 (s := wC k) (by unfold maxLen; omega))
      have HWF : Hid ((Lit.int .u8 (k : Int)).wf = true) := hide (by
        have hall : ∀ k : Nat, k < 34 → (Lit.int .u8 (k : Int)).wf = true := by decide +kernel
        exact hall k hlt)
      refine wp_mapUpdate_own (.tmp 13) (.tmp 15) (.tmp 16) 48 rfl 9 5 lawSA Tryz.underlying48 (plainElem Tryz.prog 5) w.heap.size k D rfl hD1 (by unfold maxLen; omega) (.string (wC k)) (.int .u8 (k : Int)) _ rfl rfl (unhide HKEY) (.lit (.int .u8 (k : Int))) [] (plainElem_int Tryz.underlying5 (unhide HWF)) ?_
      intro w3 hown1 hgrow1
      have HX1 : Hid (Bx w3 (w.heap.size + 2) 53 (rdC w.heap.size (w.heap.size + 1) (.slice none 0 0) 0 (.slice none 0 0))) := hide (Bx.grown hS hgrow1 (fun e => by injection e with e; omega))
      have HO1 : Hid (OpsM w3 w.heap.size (k + 1)) := hide ⟨_, hown1, hD2.put hD1.isMap hlt⟩
      have HKQ : Hid (Kq w.heap.size [] [w.heap.size] Wd w3) := hide (by
        refine Kq.of_grown hgrow1 ?_ (fun k hk => ?_)
        · exact (unhide HBd).size
        · injection hk with hk
          subst hk
          exact ⟨Nat.le_refl _, Or.inl (by simp)⟩)
      have HL1 : Hid (LabsM w3 (w.heap.size + 1) []) := hide ((unhide HMLd).kq (unhide HKQ) (by simp))
      have HB1 : Hid (Below w.heap.size w w3) := hide ((unhide HBd).trans (unhide HKQ).bel)
      refine hK.out _ _ (unhide HX1) (fun hS2 => ?_)
      clear hK K hown1 hgrow1
      refine wpAnyH_done (by kernel_rfl) ?_ _
      go_wp2
      go_roundw
      case rel => exact ⟨k + 1, by omega, by go_num, HX1, HO1, HL1, HB1⟩
      case measure => simp [intOf]; omega
    · obtain rfl : k = 34 := by omega
      go_wp2
      go_ret
      exact ⟨_, _, _, rfl, unhide HB, unhide HX, OwnX.nil _ _, OwnJm.nil _ _, unhide HML, unhide HMO, by omega, by omega, by omega, unhide HG⟩
end Go.Proofs.YthdgbdjagjagpaaGreatDoor

/-
  asm.Parse's lines as words; what a reading keeps. Plain, but for the contract of strings.Split at a line's end.
-/
namespace Go.Proofs.YthdgbdjagjagpaaGreatDoor
open Go.RowKit Go.Maps Go.WideMaps
set_option maxRecDepth 20000
set_option linter.unusedVariables false
set_option linter.unusedSimpArgs false

theorem ba_eq {a b : ByteArray} (h : a.data.toList = b.data.toList) : a = b := by
  cases a with
  | mk x =>
    cases b with
    | mk y =>
      congr 1
      exact Array.toList_inj.1 h
theorem bw_of (s : ByteArray) : bw s.data.toList = s := ba_eq (bw_data _)
theorem cutL_data (s : ByteArray) : (cutL s).data.toList = cutR s.data.toList := by
  unfold cutL
  rw [cut_eq]
theorem wds_eq (s : ByteArray) : wdsL s = (wrdL s.data.toList).map bw := by
  have h := fields_eq (cutL s)
  rw [cutL_data] at h
  unfold wdsL wrdL
  rw [← h, List.map_map]
  have : ∀ l : List ByteArray, l.map (bw ∘ fun x => x.data.toList) = l := by
    intro l
    induction l with
    | nil => rfl
    | cons x t ih => rw [List.map_cons, ih]; congr 1
  rw [this]
def linB (s : ByteArray) : List ByteArray := Lib.splitB ⟨#[10]⟩ 0 (Lib.countB s ⟨#[10]⟩) s
def linW (s : ByteArray) : List (List ByteArray) := ((splL s.data.toList).map wrdL).map fun l => l.map fun x => ⟨x.toArray⟩
theorem lin_eq (s : ByteArray) : linW s = (linB s).map wdsL := by
  unfold linW
  have h := lines_eq s
  rw [← h, List.map_map, List.map_map]
  apply List.map_congr_left
  intro x _
  rw [wds_eq]
  rfl
theorem ext_size (s : ByteArray) (a b : Nat) : (s.extract a b).size ≤ s.size := by
  rw [← ba_size, ← ba_size, ext_piece]
  unfold Lib.pieceU
  rw [List.length_take, List.length_drop]
  omega
theorem wds_size (s : ByteArray) : ∀ x ∈ wdsL s, x.size ≤ s.size := by
  intro x hx
  unfold wdsL Lib.goFieldsP at hx
  obtain ⟨p, _, rfl⟩ := List.mem_map.1 hx
  exact Nat.le_trans (ext_size _ _ _) (cutL_size s)
theorem fld_len : ∀ (l cur : List UInt8), (fldL cur l).length ≤ (if cur = [] then 0 else 1) + l.length
  | [], cur => by
    rw [fldL]
    split <;> simp
  | c :: r, cur => by
    have h1 := fld_len r []
    have h2 := fld_len r (cur ++ [c])
    rw [if_pos rfl] at h1
    rw [if_neg (by simp)] at h2
    rw [fldL, List.length_cons]
    split
    · split
      · omega
      · rw [List.length_cons]; omega
    · split <;> omega
theorem cut_len : ∀ l : List UInt8, (cutR l).length ≤ l.length
  | [] => Nat.le_refl _
  | c :: r => by
    rw [cutR]
    split
    · simp
    · have := cut_len r
      rw [List.length_cons, List.length_cons]; omega
theorem wds_len (s : ByteArray) : (wdsL s).length ≤ s.size := by
  rw [wds_eq, List.length_map]
  have h1 := fld_len (cutR s.data.toList) []
  have h2 := cut_len s.data.toList
  rw [if_pos rfl] at h1
  rw [ba_size] at h2
  unfold wrdL
  omega
theorem splitB_size (sep : ByteArray) : ∀ (k : Nat) (s : ByteArray), ∀ x ∈ Lib.splitB sep 0 k s, x.size ≤ s.size
  | 0, s, x, hx => by
    rw [Lib.splitB_zero, List.mem_singleton] at hx
    rw [hx]; exact Nat.le_refl _
  | k + 1, s, x, hx => by
    unfold Lib.splitB at hx
    split at hx
    · rw [List.mem_singleton] at hx
      rw [hx]; exact Nat.le_refl _
    · rcases List.mem_cons.1 hx with rfl | hx
      · exact ext_size _ _ _
      · exact Nat.le_trans (splitB_size sep k _ x hx) (ext_size _ _ _)
theorem linB_len (s : ByteArray) : (linB s).length = Lib.countB s ⟨#[10]⟩ + 1 := Lib.splitB_all _ (by decide) 0 _ s rfl
theorem linB_le (s : ByteArray) : (linB s).length ≤ s.size + 1 := by
  rw [linB_len]
  have := Lib.countB_le ⟨#[10]⟩ (by decide) s.size s (Nat.le_refl _)
  omega
theorem infoStr9 : (Tryz.prog.info? (Tryz.laysSpl_ren.t 9)).map (fun i => (i.zero, i.size, i.bytes)) = some (some (.string ByteArray.empty), 1, 16) := by kernel_rfl
theorem gMlS : Tryz.laysSpl_ren.g 1 = 2 := by kernel_rfl
theorem Split_any (s : ByteArray) (w : World) (hM : MlAt w) (hs : s.size ≤ 1048576) : Calls Tryz.prog 16 #[.string s, .string ⟨#[10]⟩] w fun e w' => e = .returned (.slice (some ⟨w.heap.size, 0, none⟩) (linB s).length (linB s).length) ∧ w' = w.alloc (.cells ((linB s).map Value.string).toArray 9) := by
  obtain ⟨m, hm⟩ := hM
  have hm' : w.cell? ⟨Tryz.laysSpl_ren.g 1, 0, none⟩ = some (.int .i64 m) := by rw [gMlS]; exact hm
  have hh := Any.strings_Split Tryz.laysSpl infoStr9 s ⟨#[10]⟩ m w (by omega) hm' (by decide)
  rw [linB_len]
  exact hh

/-- What stays bounded while lines are read. -/
structure Bnd (st : Rs) (k : Nat) : Prop where
  j : st.jumps.length ≤ k
  l : st.labs.length ≤ k
  n : ∀ x ∈ st.jumps, x.name.size ≤ 24 ∧ x.line ≤ 100000
theorem nameB_le {s : ByteArray} (h : nameB s = true) : s.size ≤ 24 := by
  refine Classical.byContradiction fun hh => ?_
  rw [nameB_no0 (Or.inr (by omega))] at h
  cases h
theorem put_keeps (st : Rs) (op : Nat) (a b : Int) : (putS st op a b).2.jumps = st.jumps ∧ (putS st op a b).2.labs = st.labs := by
  unfold putS
  split
  · exact ⟨rfl, rfl⟩
  · split
    · exact ⟨rfl, rfl⟩
    · exact ⟨rfl, rfl⟩
theorem Bnd.read {st : Rs} {k i : Nat} {ws : List ByteArray} (h : Bnd st k) (hi : i ≤ 100000) : Bnd (readS st i ws).2 (k + 1) := by
  have h0 : Bnd st (k + 1) := ⟨by have := h.j; omega, by have := h.l; omega, h.n⟩
  cases ws with
  | nil => exact h0
  | cons w r =>
    rw [readS_cons]
    split
    · unfold nameS
      split
      · exact h0
      · exact ⟨by have := h.j; show st.jumps.length ≤ _; omega, by have := h.l; show (st.labs ++ _).length ≤ _; rw [List.length_append, List.length_singleton]; omega, h.n⟩
    · split
      · exact h0
      · split
        · unfold jumpS
          split
          · rename_i hn
            have hp := put_keeps { st with jumps := st.jumps ++ [⟨i, st.list.length, r.getD 0 ⟨#[]⟩⟩] } (opD w).1 0 0
            refine ⟨by rw [hp.1]; have := h.j; show (st.jumps ++ _).length ≤ _; rw [List.length_append, List.length_singleton]; omega, by rw [hp.2]; have := h.l; show st.labs.length ≤ _; omega, ?_⟩
            rw [hp.1]
            intro x hx
            rcases List.mem_append.1 hx with hx | hx
            · exact h.n x hx
            · rw [List.mem_singleton] at hx
              rw [hx]
              exact ⟨nameB_le hn, hi⟩
          · exact h0
        · unfold plainS
          split
          · have hp := put_keeps st (opD w).1 (valAt r 0) (valAt r 1)
            exact ⟨by rw [hp.1]; exact h0.j, by rw [hp.2]; exact h0.l, by rw [hp.1]; exact h0.n⟩
          · exact h0
theorem goS_bad {LS : List (List ByteArray)} {k i : Nat} {ws : List ByteArray} {st : Rs} (h : LS[k]? = some ws) (he : (readS st i ws).1 ≠ 0) : goS (LS.drop k) i st = (i, (readS st i ws).1, (readS st i ws).2) := by
  obtain ⟨hk, e⟩ := List.getElem?_eq_some_iff.1 h
  rw [List.drop_eq_getElem_cons hk, e, goS, if_pos he]
theorem goS_good {LS : List (List ByteArray)} {k i : Nat} {ws : List ByteArray} {st : Rs} (h : LS[k]? = some ws) (he : (readS st i ws).1 = 0) : goS (LS.drop k) i st = goS (LS.drop (k + 1)) (i + 1) (readS st i ws).2 := by
  obtain ⟨hk, e⟩ := List.getElem?_eq_some_iff.1 h
  rw [List.drop_eq_getElem_cons hk, e, goS, if_neg (by rw [he]; decide)]
theorem setA_op {l : List Ix} {k : Nat} {a : Int} {y : Ix} (h : y ∈ setA l k a) : ∃ x ∈ l, y.op = x.op := by
  obtain ⟨m, hm, e⟩ := List.mem_iff_getElem.1 h
  have h2 : (setA l k a)[m]? = some y := by rw [List.getElem?_eq_getElem hm, e]
  rw [setA_get] at h2
  split at h2
  · cases hx : l[m]? with
    | none => rw [hx] at h2; cases h2
    | some x =>
      rw [hx] at h2
      injection h2 with h2
      exact ⟨x, List.mem_of_getElem? hx, by rw [← h2]⟩
  · exact ⟨y, List.mem_of_getElem? h2, rfl⟩
theorem lead_ops (labs : List (ByteArray × Nat)) (size : Nat) : ∀ (J : List Jm) (l : List Ix), (∀ x ∈ l, x.op < 256) → (∀ x ∈ (leadS labs size J l).2.2, x.op < 256) ∧ (leadS labs size J l).2.2.length = l.length
  | [], l, h => ⟨h, rfl⟩
  | j :: t, l, h => by
    rw [leadS]
    split
    · exact ⟨h, rfl⟩
    · rename_i tt _
      split
      · exact ⟨h, rfl⟩
      · have ih := lead_ops labs size t (setA l j.place (tt : Int)) (fun x hx => by
          obtain ⟨y, hy, e⟩ := setA_op hx
          rw [e]; exact h y hy)
        exact ⟨ih.1, by rw [ih.2, setA_len]⟩
end Go.Proofs.YthdgbdjagjagpaaGreatDoor

/-
  asm.Parse against the plain reading. Conditions: the text fits; the widths, the words, strconv.ErrRange and bytealg.MaxLen lie in their cells.
-/
namespace Go.Proofs.YthdgbdjagjagpaaGreatDoor
open Go.RowKit Go.Maps Go.WideMaps
set_option maxRecDepth 20000
set_option linter.unusedVariables false
set_option linter.unusedSimpArgs false

abbrev rs0 : Rs := ⟨[], [], 0, []⟩
theorem parS_long {s : ByteArray} (h : 65536 < s.size) : parS s = ([], 0, 4) := by unfold parS; rw [if_pos h]
theorem parS_go {s : ByteArray} (h : ¬ 65536 < s.size) : parS s = finG (goS (linW s) 1 rs0) := by unfold parS; rw [if_neg h]; rfl
theorem finG_bad {i : Nat} {e : Int} {st : Rs} (he : e ≠ 0) : finG (i, e, st) = ([], i, e) := by unfold finG; rw [if_pos he]
theorem finG_ok {i : Nat} {st : Rs} : finG (i, 0, st) = finL (leadS st.labs st.size st.jumps st.list) := by
  unfold finG
  rw [if_neg (fun h => h rfl)]
theorem finL_bad {i : Nat} {e : Int} {l : List Ix} (he : e ≠ 0) : finL (i, e, l) = ([], i, e) := by unfold finL; rw [if_pos he]
theorem finL_ok {i : Nat} {l : List Ix} : finL (i, 0, l) = alD l 0 [] := by
  unfold finL
  rw [if_neg (fun h => h rfl)]
theorem parS_bad {s : ByteArray} {i : Nat} {e : Int} {st : Rs} (h : ¬ 65536 < s.size) (hg : goS (linW s) 1 rs0 = (i, e, st)) (he : e ≠ 0) : parS s = ([], i, e) := by rw [parS_go h, hg, finG_bad he]
theorem parS_lead {s : ByteArray} {i ln : Nat} {e : Int} {st : Rs} {l : List Ix} (h : ¬ 65536 < s.size) (hg : goS (linW s) 1 rs0 = (i, 0, st)) (hl : leadS st.labs st.size st.jumps st.list = (ln, e, l)) (he : e ≠ 0) : parS s = ([], ln, e) := by rw [parS_go h, hg, finG_ok, hl, finL_bad he]
theorem parS_all {s : ByteArray} {i ln : Nat} {st : Rs} {l : List Ix} (h : ¬ 65536 < s.size) (hg : goS (linW s) 1 rs0 = (i, 0, st)) (hl : leadS st.labs st.size st.jumps st.list = (ln, 0, l)) : parS s = alD l 0 [] := by rw [parS_go h, hg, finG_ok, hl, finL_ok]
theorem WordsC.kq {B : Nat} {W W' : World} (h : WordsC W) (hb : Below B W W') (hB : 10 ≤ B) : WordsC W' := by
  obtain ⟨t, fr, h1⟩ := h
  exact ⟨t, fr, (hb.block 0 (Nat.lt_of_lt_of_le (by decide) hB)).trans h1⟩
theorem OwnS.ws {w : World} {B : Nat} {v : Value} {N : List ByteArray} (h : OwnS w B v N) (hz : ∀ x ∈ N, x.size ≤ 1048576) : ∃ ao cap, v = .slice ao N.length cap ∧ N.length ≤ cap ∧ WsAt w ao N := by
  rcases h.2 with ⟨h1, h2⟩ | ⟨g, cap, cur, hv, hb, hh, hc1, _⟩
  · refine ⟨none, 0, by rw [h1, h2], by omega, fun i x hx => ?_⟩
    have := (List.getElem?_eq_some_iff.1 hx).1
    omega
  · subst hv
    refine ⟨_, cap, rfl, hc1, fun i x hx => ⟨g, 0, rfl, ?_, hz x (List.mem_of_getElem? hx)⟩⟩
    have hi := (List.getElem?_eq_some_iff.1 hx).1
    have := (own_set h (i := i) (by omega) (.int .i64 0)).2.1
    rw [Nat.zero_add, this, List.getElem?_map, hx]
    rfl
def ParP (w w' : World) (s : ByteArray) (e : Ending) : Prop := ∃ v, e = .returned (.tuple #[v, .int .i64 ((parS s).2.1 : Int), .int .i64 (parS s).2.2]) ∧ OwnB w' w.heap.size v (parS s).1 ∧ Below w.heap.size w w'
theorem parP_nil {w w' : World} {s : ByteArray} {i : Nat} {e : Int} (h : parS s = ([], i, e)) (hb : Below w.heap.size w w') : ParP w w' s (.returned (.tuple #[.slice none 0 0, .int .i64 (i : Int), .int .i64 e])) := by
  refine ⟨.slice none 0 0, by rw [h], ?_, hb⟩
  rw [h]
  exact World.ownsRow_nil _ _ _ _
set_option maxHeartbeats 8000000 in
theorem asmParse_any (s : ByteArray) (w : World) (hW : WidAt w) (hC : WordsC w) (hR : RgAt w) (hM : MlAt w) (hg : 10 ≤ w.heap.size) (hs : s.size ≤ 140737488355328) :
    Calls Tryz.prog 7 #[.string s] w fun e w' => ParP w w' s e := by
  by_cases hlong : 65536 < s.size
  · have j1 : (s.size : Int) > 65536 := by omega
    have hp := parS_long hlong
    clear hW hC hR hM hg hlong
    go_enter Tryz.func7, Tryz.ntmps7
    go_wp2
    go_ret3
    exact parP_nil hp (Below.refl _ _)
  · have j1 : ¬ (s.size : Int) > 65536 := by omega
    have HSH := hide hlong
    have HN1 := hide (newReader_any w hC hg)
    have HWA := hide hW
    have HRG := hide hR
    have HMG := hide hM
    have HG := hide hg
    have hsz : s.size ≤ 65536 := by omega
    have HSZ := hide hsz
    clear hW hC hR hM hg hs hlong
    go_enter Tryz.func7, Tryz.ntmps7
    go_wp2_with fail
    refine (unhide HN1).mono ?_
    rintro e w1 ⟨g, mo, ml, rfl, hb1, hrd1⟩
    have HSP := hide (Split_any s w1 ((unhide HMG).below hb1) (by omega))
    have HB1 := hide hb1
    have HRD1 := hide hrd1
    clear hb1 hrd1 HN1
    go_wp2_with fail
    refine (unhide HSP).mono ?_
    rintro e w2 ⟨rfl, hw2⟩
    have hb2 : Below w1.heap.size w1 w2 := by rw [hw2]; exact (Below.refl _ _).alloc (Nat.le_refl _) _
    have HX2 : Hid (Bx w2 w1.heap.size 9 ((linB s).map Value.string).toArray) := hide (by rw [hw2]; exact heap_alloc_new w1 _)
    have HB2 := hide ((unhide HB1).trans (hb2.mono (unhide HB1).size))
    have HRD2 := hide ((unhide HRD1).below hb2)
    obtain ⟨nb, HNB⟩ : ∃ nb, w1.heap.size = nb := ⟨_, rfl⟩
    rw [HNB] at HX2 ⊢
    clear hw2 hb2 HSP HB1 HRD1 HNB
    have HLB := hide (linB_le s)
    have HLS := hide (lin_eq s)
    have hLZ : ∀ x ∈ linB s, x.size ≤ s.size := splitB_size _ _ _
    have HLZ := hide hLZ
    obtain ⟨N, HN⟩ : ∃ N, Hid ((linB s).length = N) := ⟨_, hide rfl⟩
    have hNle : N ≤ 65537 := by have := unhide HLB; have := unhide HN; omega
    rw [unhide HN]
    have HGO0 : Hid (goS (linW s) 1 rs0 = goS ((linW s).drop 0) (0 + 1) rs0) := hide rfl
    clear hLZ
    go_wp2
    go_loopw [19] (fun i wq => ∃ (k : Nat) (st : Rs) (vl vj : Value), k ≤ N ∧ i = .int .i64 (k : Int) ∧ Hid (RdW wq w.heap.size g mo ml st vl vj) ∧ Hid (GdS st) ∧ Hid (Bnd st k) ∧ Hid (goS (linW s) 1 rs0 = goS ((linW s).drop k) (k + 1) st) ∧ Hid (Below w.heap.size w wq) ∧ Hid (Bx wq nb 9 ((linB s).map Value.string).toArray)) (fun i _ => N - (intOf i).toNat)
    case atStart => exact ⟨0, rs0, _, _, by omega, rfl, HRD2, hide gdS_nil, hide ⟨Nat.le_refl _, Nat.le_refl _, fun x hx => by cases hx⟩, HGO0, HB2, HX2⟩
    case round =>
      clear HRD2 HGO0 HB2 HX2
      obtain ⟨k, st, vl, vj, hk, rfl, HRD, HGD, HBN, HGO, HB, HX⟩ := hrel
      by_cases hlt : k < N
      · have j2 : ((k : Nat) : Int) < ((N : Nat) : Int) := by omega
        have hkl : k < (linB s).length := by rw [unhide HN]; exact hlt
        have hx := List.getElem?_eq_getElem hkl
        have hxz := unhide HLZ _ (List.getElem_mem hkl)
        generalize (linB s)[k] = x at hx hxz
        have d0 := (unhide HX).c k (v := .string x) (by simp [hx])
        have hws : (linW s)[k]? = some (wdsL x) := by rw [unhide HLS, List.getElem?_map, hx]; rfl
        have HWS := hide hws
        have HWO := hide (wordsOf_any x wr ((unhide HMG).below (unhide HB)) (by omega))
        have hwz := wds_size x
        have hwl := wds_len x
        have HWZ := hide hwz
        have HWL := hide hwl
        have HXZ := hide hxz
        clear hx hws hwz hwl hkl hxz
        go_wp2_with fail
        refine (unhide HWO).mono ?_
        rintro e w3 ⟨v, rfl, how, hb3⟩
        obtain ⟨ao, cap, rfl, hcap, hwa⟩ := OwnS.ws how (fun y hy => by have := unhide HWZ y hy; have := unhide HXZ; omega)
        have HRD3 := hide ((unhide HRD).below hb3)
        have HB3 := hide ((unhide HB).trans (hb3.mono (unhide HB).size))
        have HX3 := hide ((unhide HX).below hb3)
        have hbn := unhide HBN
        have hgd := unhide HGD
        have HRR := hide (readR_any g mo ml w.heap.size st vl vj (k + 1) ao cap (wdsL x) w3 (unhide HRD3) ((unhide HWA).below (unhide HB3)) ((unhide HRG).below (unhide HB3)) hgd.le (by have := hgd.len; omega) (by have := hbn.j; omega) (by have := hbn.l; omega) (by omega) hwa (by have := unhide HWL; have := unhide HXZ; omega) hcap)
        have HBN2 := hide (hbn.read (i := k + 1) (ws := wdsL x) (by omega))
        clear hwa how hb3 HWO hbn hgd HRD HX HB hcap
        have HRR : Hid (Calls Tryz.prog 17 #[.pointer (some ⟨g, 0, none⟩), .int .i64 ((k : Int) + 1), .slice ao (wdsL x).length cap] w3 fun e w' => RdIs w3 w' w.heap.size g mo ml (readS st (k + 1) (wdsL x)) e) := hide (by have := unhide HRR; rw [Int.natCast_add] at this; exact this)
        obtain ⟨m, HML⟩ : ∃ m, Hid ((wdsL x).length = m) := ⟨_, hide rfl⟩
        rw [unhide HML] at HRR ⊢
        go_wp2_with fail
        refine (unhide HRR).mono ?_
        rintro e w4 ⟨rfl, hk4, hr4⟩
        have HB4 := hide ((unhide HB3).trans hk4.bel)
        have HX4 : Hid (Bx w4 nb 9 ((linB s).map Value.string).toArray) := hide ((unhide HX3).kq hk4 (by
          have := (unhide HRD3).lab.ne (unhide HX3)
          simpa using fun e => this e.symm) (by decide))
        have HR4 := hide hr4
        clear hk4 hr4 HRR HRD3 HB3 HX3
        by_cases he : (readS st (k + 1) (wdsL x)).1 = 0
        · have t0 : ((readS st (k + 1) (wdsL x)).1 != 0) = false := bne_f he
          obtain ⟨vl2, vj2, hrd2⟩ := unhide HR4 he
          have HRD5 := hide hrd2
          have HGD5 := hide ((unhide HGD).read he)
          have HGO5 : Hid (goS (linW s) 1 rs0 = goS ((linW s).drop (k + 1)) (k + 1 + 1) (readS st (k + 1) (wdsL x)).2) := hide (by rw [unhide HGO]; exact goS_good (unhide HWS) he)
          clear he hrd2 HR4
          go_wp2
          go_roundw
          case rel => exact ⟨k + 1, _, _, _, by omega, by go_num, HRD5, HGD5, HBN2, HGO5, HB4, HX4⟩
          case measure => simp [intOf]; omega
        · have t0 : ((readS st (k + 1) (wdsL x)).1 != 0) = true := bne_t he
          have hp : parS s = ([], k + 1, (readS st (k + 1) (wdsL x)).1) := parS_bad (unhide HSH) (by rw [unhide HGO]; exact goS_bad (unhide HWS) he) he
          have HP := hide hp
          clear he hp HR4
          go_wp2
          go_ret3
          have := parP_nil (unhide HP) (unhide HB4)
          rw [Int.natCast_add] at this
          exact this
      · obtain rfl : k = N := by omega
        have hgo : goS (linW s) 1 rs0 = (0, 0, st) := by
          rw [unhide HGO, List.drop_eq_nil_of_le (by rw [unhide HLS, List.length_map, unhide HN]; exact Nat.le_refl _)]
          rfl
        have HGOE := hide hgo
        have hbn := unhide HBN
        have hgd := unhide HGD
        have HLD := hide (lead_any g mo ml w.heap.size st vl vj wr (unhide HRD) hgd.le (by have := hbn.j; omega) (fun j hj => by
          obtain ⟨y, h1, h2⟩ := hgd.jmp j hj
          have := hbn.n j hj
          exact ⟨(List.getElem?_eq_some_iff.1 h1).1, by omega, this.2⟩) (by have := hgd.len; omega))
        have HOPS := hide (lead_ops st.labs st.size st.jumps st.list (fun y hy => by have := eE_op (hgd.ok y hy); omega))
        have HLEN := hide hgd.len
        clear hgo hbn hgd HGO HX
        obtain ⟨⟨ln, er, l⟩, HLE⟩ : ∃ r, Hid (leadS st.labs st.size st.jumps st.list = r) := ⟨_, hide rfl⟩
        rw [unhide HLE] at HLD HOPS
        go_wp2_with fail
        refine (unhide HLD).mono ?_
        rintro e w4 ⟨rfl, hk4, hr4⟩
        have HB4 := hide ((unhide HB).trans hk4.bel)
        have HR4 := hide hr4
        clear hk4 hr4 HLD HB HRD
        by_cases he : er = 0
        · subst he
          obtain ⟨vl2, vj2, hrd2⟩ := unhide HR4 rfl
          have hp := parS_all (unhide HSH) (unhide HGOE) (unhide HLE)
          have HP := hide hp
          have HRD5 := hide hrd2
          obtain ⟨ao, cap, rfl, hxa⟩ := OwnX.at hrd2.lst (unhide HOPS).1
          have c2 := hrd2.box.c 2 (v := .slice ao l.length cap) rfl
          have HAL := hide (All_any ao cap l w4 hxa ((unhide HWA).below (unhide HB4)) (by have h1 := (unhide HOPS).2; have h2 := unhide HLEN; omega))
          obtain ⟨av, hal⟩ : ∃ a : List UInt8 × Nat × Int, alD l 0 [] = a := ⟨_, rfl⟩
          rw [hal] at HAL HP
          obtain ⟨a1, a2, a3⟩ := av
          clear hp hrd2 HR4 hxa hal
          go_wp2_with (go_at_call 20; refine (unhide HAL).mono ?_; rintro e w5 ⟨v, rfl, hob, hb5⟩)
          go_ret3
          refine ⟨v, by rw [unhide HP]; rfl, ?_, (unhide HB4).trans (hb5.mono (unhide HB4).size)⟩
          rw [unhide HP]
          refine ⟨hob.1, ?_⟩
          rcases hob.2 with h1 | ⟨g', cap', cur, hv, hbg, r⟩
          · exact Or.inl h1
          · exact Or.inr ⟨g', cap', cur, hv, by have := (unhide HB4).size; omega, r⟩
        · have t0 : (er != 0) = true := bne_t he
          have hp : parS s = ([], ln, er) := parS_lead (unhide HSH) (unhide HGOE) (unhide HLE) he
          have HP := hide hp
          clear he hp HR4
          go_wp2
          go_ret3
          exact parP_nil (unhide HP) (unhide HB4)
end Go.Proofs.YthdgbdjagjagpaaGreatDoor
