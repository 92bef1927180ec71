/-
  Texts of contracts and plain lemmas, one behind another; each says at its head what it holds.
-/
import Derived.Test.YthdgbdjagjagpaaGreatDoorJRD
import Derived.Test.YthdgbdjagjagpaaGreatDoorJPR
import Derived.Test.YthdgbdjagjagpaaGreatDoorJRB
/-
  The document's reader as it lies in memory; a label that is met. Conditions: lengths fit.
-/
namespace Go.Proofs.YthdgbdjagjagpaaGreatDoor
open Go.RowKit
set_option maxRecDepth 20000
set_option linter.unusedVariables false
set_option linter.unusedSimpArgs false

def rjCells (l : List Ix) (j : Jm) : List Value := [.int .i64 (j.line : Int), .int .i64 (adr l j.place : Int), .string j.name]
def rjVals (l : List Ix) (J : List Jm) : List Value := J.flatMap (rjCells l)
def OwnRj (w : World) (base : Nat) (v : Value) (l : List Ix) (J : List Jm) : Prop := w.ownsRow base 60 3 v J.length (rjVals l J)
theorem infoRj : (Tryz.prog.info? 60).map (fun i => (i.zero, i.size, i.bytes)) = some (some (.agg #[.int .i64 0, .int .i64 0, .string ⟨#[]⟩]), 3, 32) := by kernel_rfl
def rfC (vb vj vl : Value) : Array Value := #[vb, vj, vl]
structure RfW (w : World) (B g : Nat) (st : Rs) (vb vj vl : Value) : Prop where
  box : Bx w g 58 (rfC vb vj vl)
  bts : OwnB w B vb (encs st.list)
  jmp : OwnRj w B vj st.list st.jumps
  lab : OwnRl w B vl st.labs
  bg : B ≤ g
abbrev tsF : List TypeId := [72, 58, 60, 105, 5]
def RfIs (w w' : World) (B g : Nat) (r : Int × Rs) (e : Ending) : Prop :=
  e = .returned (.int .i64 r.1) ∧ Kq B tsF [] w w' ∧ (r.1 = 0 → ∃ vb vj vl, RfW w' B g r.2 vb vj vl)
theorem RfW.size_le {w : World} {B g : Nat} {st : Rs} {vb vj vl : Value} (h : RfW w B g st vb vj vl) : B ≤ w.heap.size := by have := h.box.lt; have := h.bg; omega
theorem RfW.below {w w' : World} {B g : Nat} {st : Rs} {vb vj vl : Value} (h : RfW w B g st vb vj vl) (hb : Below w.heap.size w w') : RfW w' B g st vb vj vl := by
  have hk : Kq B [] [] w w' := Kq.of_below hb h.size_le
  exact ⟨h.box.below hb, own_kq h.bts hk (by simp) (by simp), own_kq h.jmp hk (by simp) (by simp), own_kq h.lab hk (by simp) (by simp), h.bg⟩
theorem RfW.kqI {w w' : World} {B g : Nat} {st : Rs} {vb vj vl : Value} (h : RfW w B g st vb vj vl) (hk : Kq B [72] [] w w') : RfW w' B g st vb vj vl :=
  ⟨h.box.kq hk (by simp) (by decide), own_kq h.bts hk (by simp) (by decide), own_kq h.jmp hk (by simp) (by decide), own_kq h.lab hk (by simp) (by decide), h.bg⟩
theorem kqF {B : Nat} {w w' : World} {ts : List TypeId} (h : Kq B ts [] w w') (hs : ∀ t, t ∈ ts → t ∈ tsF) : Kq B tsF [] w w' := h.mono (Nat.le_refl _) hs (fun g hg => hg)
theorem kqFB {B : Nat} {w w' : World} (h : Below w.heap.size w w') (hB : B ≤ w.heap.size) : Kq B tsF [] w w' := Kq.of_below h hB
theorem OwnB.slice {w : World} {base : Nat} {v : Value} {l : List UInt8} (h : OwnB w base v l) : ∃ ao cap, v = .slice ao l.length cap := by
  rcases h.2 with ⟨h1, h2⟩ | ⟨g, cap, cur, hv, _⟩
  · exact ⟨none, 0, by rw [h1, h2]⟩
  · exact ⟨_, cap, hv⟩
theorem OwnRj.slice {w : World} {base : Nat} {v : Value} {l : List Ix} {J : List Jm} (h : OwnRj w base v l J) : ∃ ao cap, v = .slice ao J.length cap := by
  rcases h.2 with ⟨h1, h2⟩ | ⟨g, cap, cur, hv, _⟩
  · exact ⟨none, 0, by rw [h1, h2]⟩
  · exact ⟨_, cap, hv⟩
theorem rl_snoc {w : World} {B g0 cap g i : Nat} {t : TypeId} {cs : Array Value} {l : List (ByteArray × Nat)} {x : ByteArray × Nat} {v : Value} (h : w.ownsRow B 105 2 (.slice (some ⟨g0, 0, none⟩) (l.length + 1) cap) (l.length + 1) (rlVals l ++ rlCells x)) (hR : Bx w g t cs) (ht : 105 ≠ t) : OwnRl (w.setCell ⟨g, i, none⟩ v) B (.slice (some ⟨g0, 0, none⟩) (l.length + 1) cap) (l ++ [x]) := by
  have h2 := own_kq h (Kq.set (B := 0) (ts := [t]) (gs := []) hR (Nat.zero_le _) (by simp) i v) (by simp) (by simpa using ht)
  unfold OwnRl
  have e : rlVals (l ++ [x]) = rlVals l ++ rlCells x := by simp [rlVals]
  rw [e, List.length_append]
  exact h2
/-- Reading a line that is a label, as the document tells it. -/
theorem read_lab {st : Rs} {n : Nat} {x : ByteArray} (hc : colB x = true) : readS st n [x] = if nameB (stripB x) = true then nameS st (stripB x) else (231, st) := by
  rw [readS_cons, hc]
  by_cases h : nameB (stripB x) = true
  · rw [if_pos (by rw [h]; rfl), if_pos h]
  · rw [if_neg (by simp [h]), if_neg h, if_pos (Or.inl (op_col hc))]
theorem nameS_f {st : Rs} {s : ByteArray} : nameS st s = if 0 ≤ fndN st.labs s then (230, st) else (0, { st with labs := st.labs ++ [(s, st.size)] }) := by
  unfold nameS fndN
  cases h : findLb st.labs s with
  | none => simp
  | some k => simp
set_option maxHeartbeats 8000000 in
theorem refLab_any (g B : Nat) (st : Rs) (vb vj vl : Value) (n : Int) (b off cap : Nat) (x : ByteArray) (nn : Nat) (w : World) (h : RfW w B g st vb vj vl) (hS : st.size = (encs st.list).length) (hz : st.size ≤ 4096) (hn : st.labs.length ≤ 1000000)
    (hx : w.cell? ⟨b, off, none⟩ = some (.string x)) (hxz : 1 ≤ x.size ∧ x.size ≤ 1048576) (h58 : byteAt x (x.size - 1) = 58) :
    Calls Tryz.prog 23 #[.pointer (some ⟨g, 0, none⟩), .int .i64 n, .slice (some ⟨b, off, none⟩) 1 cap] w fun e w' => RfIs w w' B g (readS st nn [x]) e := by
  obtain ⟨c1, c2⟩ := col_last x hxz.1
  have hcol : colB x = true := by rw [c1, decide_eq_true h58]
  rw [read_lab hcol, nameS_f]
  have HST := hide (c2 h58)
  obtain ⟨m, hm⟩ : ∃ m, x.size = m + 1 := ⟨x.size - 1, by omega⟩
  have hm1 : x.size - 1 = m := by omega
  rw [hm1] at h58 HST
  have hml : m < x.size := by omega
  have ek := byteAt_eq x m hml
  have t0 : (((x[m]'hml).toNat : Int) == 58) = true := by rw [ek] at h58; exact beq_t h58
  obtain ⟨S, HSS⟩ : ∃ S, Hid (stripB x = S) := ⟨_, hide rfl⟩
  have HNM := hide (refNameW_any S w (by rw [← unhide HSS, unhide HST]; have := ext_size x 0 m; unfold maxLen; omega))
  have hsx : x.extract 0 m = S := by rw [← unhide HSS, unhide HST]
  rw [unhide HSS]
  have HH := hide h
  have hms : ((x.size : Nat) : Int) - 1 = (m : Int) := by omega
  have HMS := hide hms
  have HSZ := hide hS
  have HZ := hide hz
  have HBS := hide h.size_le
  clear c1 c2 hcol h58 ek hm1 hms h hS hz
  cases hnb : nameB S with
  | false =>
    rw [hnb] at HNM
    rw [if_neg (by decide)]
    clear hn HH HSS HST HSZ HZ
    go_enter Tryz.func23, Tryz.ntmps23
    go_wp2_with (go_at_call 55; refine (unhide HNM).mono ?_; rintro e w' ⟨rfl, rfl⟩)
    go_ret
    exact ⟨rfl, kqFB (Below.refl _ _) (unhide HBS), fun e => absurd e (show ¬ (231 : Int) = 0 by decide)⟩
  | true =>
    rw [hnb] at HNM
    rw [if_pos rfl]
    obtain ⟨la, lc, rfl⟩ := OwnRl.slice (unhide HH).lab
    obtain ⟨oa, oc, rfl⟩ := OwnB.slice (unhide HH).bts
    have HFD := hide (refFind_any g B _ _ la lc st.labs S w (unhide HH).box (unhide HH).lab (unhide HBS) hn)
    obtain ⟨fd, HFE⟩ : ∃ fd, Hid (fndN st.labs S = fd) := ⟨_, hide rfl⟩
    rw [unhide HFE] at HFD ⊢
    go_enter Tryz.func23, Tryz.ntmps23
    by_cases hfd : 0 ≤ fd
    · have j1 : fd ≥ 0 := hfd
      rw [if_pos hfd]
      clear hn HH HSS HST HSZ HZ HFE hfd
      go_wp2_with (first | (go_at_call 55; refine (unhide HNM).mono ?_; rintro e w9 ⟨rfl, hw9⟩; rw [hw9]; clear hw9 w9) | (go_at_call 24; refine (unhide HFD).mono ?_; rintro e w1 ⟨rfl, hb⟩))
      go_ret
      exact ⟨rfl, kqFB hb (unhide HBS), fun e => absurd e (show ¬ (230 : Int) = 0 by decide)⟩
    · have j1 : ¬ fd ≥ 0 := hfd
      rw [if_neg hfd]
      obtain ⟨i0, hi0, hz0, hz1, hz2⟩ := info_parts infoRl
      clear HFE hfd
      go_upto_region 8 with (first | (go_at_call 55; refine (unhide HNM).mono ?_; rintro e w9 ⟨rfl, hw9⟩; rw [hw9]; clear hw9 w9) | (go_at_call 24; refine (unhide HFD).mono ?_; rintro e w1 ⟨rfl, hb⟩))
      have HX1 := hide ((unhide HH).below hb)
      have HK1 := hide (kqFB hb (unhide HBS))
      clear hb HH HNM HFD HST HSS
      have hR0 := (unhide HX1).box
      have hS0 : w1.drew.cell? ⟨g, 0, none⟩ = some (.slice oa (encs st.list).length oc) := hR0.c 0 (v := .slice oa (encs st.list).length oc) rfl
      have HRd : Hid (Bx w1.drew g 58 (rfC (.slice oa (encs st.list).length oc) vj (.slice la st.labs.length lc))) := hR0
      have HD : Hid (Below w1.heap.size w1 w1.drew) := hide (belowD (Below.refl _ _) 1)
      have HRW : Hid (RfW w1.drew B g st (.slice oa (encs st.list).length oc) vj (.slice la st.labs.length lc)) := hide ((unhide HX1).below (unhide HD))
      have HKd : Hid (Kq B tsF [] w w1.drew) := hide ((unhide HK1).trans (kqFB (unhide HD) (unhide HX1).size_le))
      have hmm : ¬ ((m : Nat) : Int) + 1 < ((m : Nat) : Int) := by omega
      refine wp_region_held_drew (S := fun w' => w'.cell? ⟨g, 0, none⟩ = some (.slice oa (encs st.list).length oc)) (by kernel_rfl) hS0 (fun hS => ?_)
      clear hS0 hR0 HX1 HK1 HD
      generalize w1.drew = Wd at hS HRd HRW HKd ⊢
      have cF := (unhide HRd).c 2 (v := (.slice la st.labs.length lc)) rfl
      have hBd := (unhide HRW).size_le
      refine wpAnyH_take (i := 0) (v := .pointer (some ⟨g, 0, none⟩)) rfl (by kernel_rfl) (by kernel_rfl) (by kernel_rfl) (fun _ _ _ h => h) (Or.inl ⟨by rfl, fun w hw => by go_simp⟩) hS ?_
      refine wpAnyH_take (i := 1) (v := .pointer (some ⟨g, 0, none⟩)) rfl (by kernel_rfl) (by kernel_rfl) (by kernel_rfl) (fun _ _ _ h => h) (Or.inl ⟨by rfl, fun w hw => by go_simp⟩) hS ?_
      go_simp
      refine wpAnyH_take (i := 2) (v := .pointer (some ⟨g, 0, none⟩)) rfl (by kernel_rfl) (by kernel_rfl) (by kernel_rfl) (fun _ _ _ h => h) (Or.inl ⟨by rfl, fun w hw => by go_simp⟩) hS ?_
      refine wpAnyH_take (i := 3) (v := .pointer (some ⟨g, 2, none⟩)) rfl (by kernel_rfl) (by kernel_rfl) (by kernel_rfl) (fun _ _ _ h => h) (Or.inl ⟨by rfl, fun w hw => by go_simp⟩) hS ?_
      go_simp
      refine wpAnyH_take (i := 5) (v := .string x) rfl (by kernel_rfl) (by kernel_rfl) (by kernel_rfl) (fun _ _ _ h => h) (Or.inl ⟨by rfl, fun w hw => by go_simp⟩) hS ?_
      refine wpAnyH_take (i := 6) (v := .int .i64 (m : Int)) rfl (by kernel_rfl) (by kernel_rfl) (by kernel_rfl) (fun _ _ _ h => h) (Or.inl ⟨by rfl, fun w hw => by go_simp⟩) hS ?_
      go_simp
      refine wpAnyH_take (i := 7) (v := .string S) rfl (by kernel_rfl) (by kernel_rfl) (by kernel_rfl) (fun _ _ _ h => h) (Or.inl ⟨by rfl, fun w hw => by go_simp⟩) hS ?_
      refine wpAnyH_take (i := 8) (v := .pointer (some ⟨g, 0, none⟩)) rfl (by kernel_rfl) (by kernel_rfl) (by kernel_rfl) (fun _ _ _ h => h) (Or.inl ⟨by rfl, fun w hw => by go_simp⟩) hS ?_
      go_simp
      refine wpAnyH_take (i := 9) (v := .pointer (some ⟨g, 0, none⟩)) rfl (by kernel_rfl) (by kernel_rfl) (by kernel_rfl) (fun _ _ _ h => h) (Or.inl ⟨by rfl, fun w hw => by go_simp⟩) hS ?_
      refine wpAnyH_take (i := 10) (v := .pointer (some ⟨g, 0, none⟩)) rfl (by kernel_rfl) (by kernel_rfl) (by kernel_rfl) (fun _ _ _ h => h) (Or.inl ⟨by rfl, fun w hw => by go_simp⟩) hS ?_
      go_simp
      refine wpAnyH_take (i := 11) (v := .slice oa (encs st.list).length oc) rfl (by kernel_rfl) (by kernel_rfl) (by kernel_rfl) (fun _ _ _ h => h) (Or.inl ⟨by rfl, fun w hw => by go_simp⟩) hS ?_
      refine wpAnyH_take (i := 12) (v := .int .i64 ((encs st.list).length : Int)) rfl (by kernel_rfl) (by kernel_rfl) (by kernel_rfl) (fun _ _ _ h => h) (Or.inl ⟨by rfl, fun w hw => by go_simp⟩) hS ?_
      go_simp
      refine wpAnyH_take (i := 13) (v := .agg #[.string S, .int .i64 ((encs st.list).length : Int)]) rfl (by kernel_rfl) (by kernel_rfl) (by kernel_rfl) (fun _ _ _ h => h) (Or.inl ⟨by rfl, fun w hw => by go_simp⟩) hS ?_
      go_simp
      refine wpAnyH_ready (rs := [4, 14]) (by kernel_rfl) (by simp) ?_
      refine (AllReadyH.cons rfl (fun K hK => ?_) (AllReadyH.cons rfl (fun K hK => ?_) AllReadyH.nil))
      · go_simp
        refine hK.out _ _ hS (fun hS1 => ?_)
        clear hK K
        refine wpAnyH_ready (rs := [14]) (by kernel_rfl) (by simp) ?_
        refine (AllReadyH.cons rfl (fun K hK => ?_) AllReadyH.nil)
        go_simp
        have hSA : (Wd.alloc (.cells #[.string S, .int .i64 ((encs st.list).length : Int)] 105)).cell? ⟨g, 0, none⟩ = some (.slice oa (encs st.list).length oc) := (Bx.below (unhide HRd) ((Below.refl Wd.heap.size Wd).alloc (Nat.le_refl _) (.cells #[.string S, .int .i64 ((encs st.list).length : Int)] 105))).c 0 (v := .slice oa (encs st.list).length oc) rfl
        refine hK.out _ _ hSA (fun hS2 => ?_)
        have HOd : Hid (World.ownsRow (Wd.alloc (.cells #[.string S, .int .i64 ((encs st.list).length : Int)] 105)) B 105 2 (.slice la st.labs.length lc) st.labs.length (rlVals st.labs)) := hide (World.ownsRow.alloc (unhide HRW).lab _)
        clear hK K
        refine wpAnyH_ready (rs := [15]) (by kernel_rfl) (by simp) ?_
        refine AllReadyH.cons rfl (fun K hK => ?_) AllReadyH.nil
        rw [if_pos (by rfl)]
        refine wp_append_lies (w := (Wd.alloc (.cells #[.string S, .int .i64 ((encs st.list).length : Int)] 105))) _ _ 56 (by rfl) B 105 i0 _ 2 24 Tryz.underlying56 hi0 hz0 hz1 hz2 rfl (by omega) (.slice la st.labs.length lc) st.labs.length (rlVals st.labs) (by rfl) (unhide HOd) ⟨Wd.heap.size, 0, none⟩ 1 1 (rlCells (S, (encs st.list).length)) (by rfl) (by rfl) (World.news_of_block (cs := (rlCells (S, (encs st.list).length)).toArray) (t := 105) (fr := (0, 0)) (heap_alloc_new Wd _)) (by intro u hu; simp [rlCells] at hu; rcases hu with rfl | rfl <;> rfl) (by omega) (by unfold maxLen; omega) (by omega) (by simp; omega) (Wd.heap.size + 1) (by simp) ?_
        intro g3 cap3 w3 hown hgrow hat hlt3
        have HR3 : Hid (Bx w3 g 58 (rfC (.slice oa (encs st.list).length oc) vj (.slice la st.labs.length lc))) := hide (Bx.grown (Bx.below (unhide HRd) ((Below.refl Wd.heap.size Wd).alloc (Nat.le_refl _) _)) hgrow (own_no (unhide HRW).lab (unhide HRd) (by decide)))
        have HKA : Hid (Kq B [105] [] Wd w3) := hide ((Kq.of_below ((Below.refl Wd.heap.size Wd).alloc (Nat.le_refl _) _) (unhide HRW).size_le).trans (Kq.of_grown hgrow (by have := (unhide HRW).size_le; simp; omega) (fun k hk => by obtain ⟨h1, cs, t, fr, h2, h3⟩ := own_blockA (unhide HOd) k hk; exact ⟨h1, Or.inr ⟨cs, t, fr, h2, h3⟩⟩)))
        have kS : w3.cell? ⟨g, 0, none⟩ = some (.slice oa (encs st.list).length oc) := (unhide HR3).c 0 (v := .slice oa (encs st.list).length oc) rfl
        have kF := (unhide HR3).c 2 (v := (.slice la st.labs.length lc)) rfl
        have fF := (unhide HR3).f 2
        have HR4 : Hid (Bx (w3.setCell ⟨g, 2, none⟩ (.slice (some ⟨g3, 0, none⟩) (st.labs.length + 1) cap3)) g 58 (rfC (.slice oa (encs st.list).length oc) vj (.slice (some ⟨g3, 0, none⟩) (st.labs.length + 1) cap3))) := hide ((unhide HR3).set 2 _ rfl)
        have HK4 : Hid (Kq B [105, 58] [] Wd (w3.setCell ⟨g, 2, none⟩ (.slice (some ⟨g3, 0, none⟩) (st.labs.length + 1) cap3))) := hide (((unhide HKA).mono (Nat.le_refl _) (fun t ht => by simp at ht ⊢; exact Or.inl ht) (fun g hg => hg)).trans (Kq.set (gs := []) (unhide HR3) (unhide HRW).bg (by simp) 2 (.slice (some ⟨g3, 0, none⟩) (st.labs.length + 1) cap3)))
        have HO4 : Hid (OwnRl (w3.setCell ⟨g, 2, none⟩ (.slice (some ⟨g3, 0, none⟩) (st.labs.length + 1) cap3)) B (.slice (some ⟨g3, 0, none⟩) (st.labs.length + 1) cap3) (st.labs ++ [(S, (encs st.list).length)])) := hide (rl_snoc hown (unhide HR3) (by decide))
        have HX4 : Hid (RfW (w3.setCell ⟨g, 2, none⟩ (.slice (some ⟨g3, 0, none⟩) (st.labs.length + 1) cap3)) B g { st with labs := st.labs ++ [(S, (encs st.list).length)] } (.slice oa (encs st.list).length oc) vj (.slice (some ⟨g3, 0, none⟩) (st.labs.length + 1) cap3)) := hide (by
          have hq := unhide HRW
          exact ⟨unhide HR4, own_kq hq.bts (unhide HK4) (by simp) (by decide), own_kq hq.jmp (unhide HK4) (by simp) (by decide), unhide HO4, hq.bg⟩)
        have HK5 : Hid (Kq B tsF [] w (w3.setCell ⟨g, 2, none⟩ (.slice (some ⟨g3, 0, none⟩) (st.labs.length + 1) cap3))) := hide ((unhide HKd).trans (kqF (unhide HK4) (fun t ht => by simp at ht ⊢; rcases ht with h | h <;> simp [h])))
        have hS8 : (w3.setCell ⟨g, 2, none⟩ (.slice (some ⟨g3, 0, none⟩) (st.labs.length + 1) cap3)).cell? ⟨g, 0, none⟩ = some (.slice oa (encs st.list).length oc) := (unhide HR4).c 0 (v := .slice oa (encs st.list).length oc) rfl
        refine hK.out _ _ kS (fun hS7 => ?_)
        clear hK K hown hgrow hat hlt3
        refine wpAnyH_take (i := 16) (v := .pointer (some ⟨g, 0, none⟩)) rfl (by kernel_rfl) (by kernel_rfl) (by kernel_rfl) (fun _ _ _ h => h) (Or.inl ⟨by rfl, fun w _ => by go_simp⟩) hS7 ?_
        refine wpAnyH_take (i := 17) (v := .pointer (some ⟨g, 2, none⟩)) rfl (by kernel_rfl) (by kernel_rfl) (by kernel_rfl) (fun _ _ _ h => h) (Or.inl ⟨by rfl, fun w _ => by go_simp⟩) hS7 ?_
        refine wpAnyH_ready (rs := [18]) (by kernel_rfl) (by simp) ?_
        refine (AllReadyH.cons rfl (fun K hK => ?_) AllReadyH.nil)
        go_simp
        refine hK.out _ _ hS8 (fun hS9 => ?_)
        clear hK K
        refine wpAnyH_done (by kernel_rfl) ?_ _
        go_wp2
        go_ret
        have hx4 := unhide HX4
        rw [← unhide HSZ] at hx4
        exact ⟨rfl, unhide HK5, fun _ => ⟨_, _, _, hx4⟩⟩
      · go_simp
        have hSA : (Wd.alloc (.cells #[.string S, .int .i64 ((encs st.list).length : Int)] 105)).cell? ⟨g, 0, none⟩ = some (.slice oa (encs st.list).length oc) := (Bx.below (unhide HRd) ((Below.refl Wd.heap.size Wd).alloc (Nat.le_refl _) (.cells #[.string S, .int .i64 ((encs st.list).length : Int)] 105))).c 0 (v := .slice oa (encs st.list).length oc) rfl
        have cA := (Bx.below (unhide HRd) ((Below.refl Wd.heap.size Wd).alloc (Nat.le_refl _) (.cells #[.string S, .int .i64 ((encs st.list).length : Int)] 105))).c 2 (v := (.slice la st.labs.length lc)) rfl
        refine hK.out _ _ hSA (fun hS1 => ?_)
        clear hK K
        refine wpAnyH_ready (rs := [4]) (by kernel_rfl) (by simp) ?_
        refine (AllReadyH.cons rfl (fun K hK => ?_) AllReadyH.nil)
        go_simp
        refine hK.out _ _ hSA (fun hS2 => ?_)
        have HOd : Hid (World.ownsRow (Wd.alloc (.cells #[.string S, .int .i64 ((encs st.list).length : Int)] 105)) B 105 2 (.slice la st.labs.length lc) st.labs.length (rlVals st.labs)) := hide (World.ownsRow.alloc (unhide HRW).lab _)
        clear hK K
        refine wpAnyH_ready (rs := [15]) (by kernel_rfl) (by simp) ?_
        refine AllReadyH.cons rfl (fun K hK => ?_) AllReadyH.nil
        rw [if_pos (by rfl)]
        refine wp_append_lies (w := (Wd.alloc (.cells #[.string S, .int .i64 ((encs st.list).length : Int)] 105))) _ _ 56 (by rfl) B 105 i0 _ 2 24 Tryz.underlying56 hi0 hz0 hz1 hz2 rfl (by omega) (.slice la st.labs.length lc) st.labs.length (rlVals st.labs) (by rfl) (unhide HOd) ⟨Wd.heap.size, 0, none⟩ 1 1 (rlCells (S, (encs st.list).length)) (by rfl) (by rfl) (World.news_of_block (cs := (rlCells (S, (encs st.list).length)).toArray) (t := 105) (fr := (0, 0)) (heap_alloc_new Wd _)) (by intro u hu; simp [rlCells] at hu; rcases hu with rfl | rfl <;> rfl) (by omega) (by unfold maxLen; omega) (by omega) (by simp; omega) (Wd.heap.size + 1) (by simp) ?_
        intro g3 cap3 w3 hown hgrow hat hlt3
        have HR3 : Hid (Bx w3 g 58 (rfC (.slice oa (encs st.list).length oc) vj (.slice la st.labs.length lc))) := hide (Bx.grown (Bx.below (unhide HRd) ((Below.refl Wd.heap.size Wd).alloc (Nat.le_refl _) _)) hgrow (own_no (unhide HRW).lab (unhide HRd) (by decide)))
        have HKA : Hid (Kq B [105] [] Wd w3) := hide ((Kq.of_below ((Below.refl Wd.heap.size Wd).alloc (Nat.le_refl _) _) (unhide HRW).size_le).trans (Kq.of_grown hgrow (by have := (unhide HRW).size_le; simp; omega) (fun k hk => by obtain ⟨h1, cs, t, fr, h2, h3⟩ := own_blockA (unhide HOd) k hk; exact ⟨h1, Or.inr ⟨cs, t, fr, h2, h3⟩⟩)))
        have kS : w3.cell? ⟨g, 0, none⟩ = some (.slice oa (encs st.list).length oc) := (unhide HR3).c 0 (v := .slice oa (encs st.list).length oc) rfl
        have kF := (unhide HR3).c 2 (v := (.slice la st.labs.length lc)) rfl
        have fF := (unhide HR3).f 2
        have HR4 : Hid (Bx (w3.setCell ⟨g, 2, none⟩ (.slice (some ⟨g3, 0, none⟩) (st.labs.length + 1) cap3)) g 58 (rfC (.slice oa (encs st.list).length oc) vj (.slice (some ⟨g3, 0, none⟩) (st.labs.length + 1) cap3))) := hide ((unhide HR3).set 2 _ rfl)
        have HK4 : Hid (Kq B [105, 58] [] Wd (w3.setCell ⟨g, 2, none⟩ (.slice (some ⟨g3, 0, none⟩) (st.labs.length + 1) cap3))) := hide (((unhide HKA).mono (Nat.le_refl _) (fun t ht => by simp at ht ⊢; exact Or.inl ht) (fun g hg => hg)).trans (Kq.set (gs := []) (unhide HR3) (unhide HRW).bg (by simp) 2 (.slice (some ⟨g3, 0, none⟩) (st.labs.length + 1) cap3)))
        have HO4 : Hid (OwnRl (w3.setCell ⟨g, 2, none⟩ (.slice (some ⟨g3, 0, none⟩) (st.labs.length + 1) cap3)) B (.slice (some ⟨g3, 0, none⟩) (st.labs.length + 1) cap3) (st.labs ++ [(S, (encs st.list).length)])) := hide (rl_snoc hown (unhide HR3) (by decide))
        have HX4 : Hid (RfW (w3.setCell ⟨g, 2, none⟩ (.slice (some ⟨g3, 0, none⟩) (st.labs.length + 1) cap3)) B g { st with labs := st.labs ++ [(S, (encs st.list).length)] } (.slice oa (encs st.list).length oc) vj (.slice (some ⟨g3, 0, none⟩) (st.labs.length + 1) cap3)) := hide (by
          have hq := unhide HRW
          exact ⟨unhide HR4, own_kq hq.bts (unhide HK4) (by simp) (by decide), own_kq hq.jmp (unhide HK4) (by simp) (by decide), unhide HO4, hq.bg⟩)
        have HK5 : Hid (Kq B tsF [] w (w3.setCell ⟨g, 2, none⟩ (.slice (some ⟨g3, 0, none⟩) (st.labs.length + 1) cap3))) := hide ((unhide HKd).trans (kqF (unhide HK4) (fun t ht => by simp at ht ⊢; rcases ht with h | h <;> simp [h])))
        have hS8 : (w3.setCell ⟨g, 2, none⟩ (.slice (some ⟨g3, 0, none⟩) (st.labs.length + 1) cap3)).cell? ⟨g, 0, none⟩ = some (.slice oa (encs st.list).length oc) := (unhide HR4).c 0 (v := .slice oa (encs st.list).length oc) rfl
        refine hK.out _ _ kS (fun hS7 => ?_)
        clear hK K hown hgrow hat hlt3
        refine wpAnyH_take (i := 16) (v := .pointer (some ⟨g, 0, none⟩)) rfl (by kernel_rfl) (by kernel_rfl) (by kernel_rfl) (fun _ _ _ h => h) (Or.inl ⟨by rfl, fun w _ => by go_simp⟩) hS7 ?_
        refine wpAnyH_take (i := 17) (v := .pointer (some ⟨g, 2, none⟩)) rfl (by kernel_rfl) (by kernel_rfl) (by kernel_rfl) (fun _ _ _ h => h) (Or.inl ⟨by rfl, fun w _ => by go_simp⟩) hS7 ?_
        refine wpAnyH_ready (rs := [18]) (by kernel_rfl) (by simp) ?_
        refine (AllReadyH.cons rfl (fun K hK => ?_) AllReadyH.nil)
        go_simp
        refine hK.out _ _ hS8 (fun hS9 => ?_)
        clear hK K
        refine wpAnyH_done (by kernel_rfl) ?_ _
        go_wp2
        go_ret
        have hx4 := unhide HX4
        rw [← unhide HSZ] at hx4
        exact ⟨rfl, unhide HK5, fun _ => ⟨_, _, _, hx4⟩⟩
end Go.Proofs.YthdgbdjagjagpaaGreatDoor

/-
  The document's reader: an instruction's line. Conditions: lengths fit.
-/
namespace Go.Proofs.YthdgbdjagjagpaaGreatDoor
open Go.RowKit
set_option maxRecDepth 20000
set_option linter.unusedVariables false
set_option linter.unusedSimpArgs false

def rjNew (nn k : Nat) (x : ByteArray) : List Value := [.int .i64 (nn : Int), .int .i64 (k : Int), .string x]
theorem rj_snoc {w : World} {B g0 cap g i : Nat} {t : TypeId} {cs : Array Value} {l : List Ix} {J : List Jm} {nn : Nat} {x : ByteArray} {v : Value} (h : w.ownsRow B 60 3 (.slice (some ⟨g0, 0, none⟩) (J.length + 1) cap) (J.length + 1) (rjVals l J ++ rjNew nn (encs l).length x)) (hR : Bx w g t cs) (ht : 60 ≠ t) : OwnRj (w.setCell ⟨g, i, none⟩ v) B (.slice (some ⟨g0, 0, none⟩) (J.length + 1) cap) l (J ++ [⟨nn, l.length, x⟩]) := by
  have h2 := own_kq h (Kq.set (B := 0) (ts := [t]) (gs := []) hR (Nat.zero_le _) (by simp) i v) (by simp) (by simpa using ht)
  unfold OwnRj
  have e : rjVals l (J ++ [⟨nn, l.length, x⟩]) = rjVals l J ++ rjNew nn (encs l).length x := by simp [rjVals, rjCells, rjNew, adr_all]
  rw [e, List.length_append]
  exact h2
/-- A text lies in a row of texts. -/
def StrB (w : World) (b off : Nat) (x : ByteArray) : Prop := ∃ (cs : Array Value) (fr : Nat × Nat), w.heap[b]? = some (.cells cs 9 fr) ∧ cs[off]? = some (.string x)
theorem StrB.cell {w : World} {b off : Nat} {x : ByteArray} (h : StrB w b off x) : w.cell? ⟨b, off, none⟩ = some (.string x) := by
  obtain ⟨cs, fr, h1, h2⟩ := h
  simp [World.cell?, h1, h2]
theorem StrB.below {w w' : World} {b off : Nat} {x : ByteArray} (h : StrB w b off x) (hb : Below w.heap.size w w') : StrB w' b off x := by
  obtain ⟨cs, fr, h1, h2⟩ := h
  exact ⟨cs, fr, (hb.block b (Array.getElem?_eq_some_iff.1 h1).1).trans h1, h2⟩
theorem StrB.kq {B : Nat} {ts : List TypeId} {w w' : World} {b off : Nat} {x : ByteArray} (h : StrB w b off x) (hk : Kq B ts [] w w') (ht : 9 ∉ ts) : StrB w' b off x := by
  obtain ⟨cs, fr, h1, h2⟩ := h
  refine ⟨cs, fr, hk.blk b _ h1 (by simp) ?_, h2⟩
  intro cs' t' fr' e
  injection e with _ e
  subst e
  exact ht
theorem str_kq {B : Nat} {ts : List TypeId} {w w' : World} {b off : Nat} {x : ByteArray} (hk : Kq B ts [] w w') (h : StrB w b off x) (ht : 9 ∉ ts) : w'.cell? ⟨b, off, none⟩ = some (.string x) := (h.kq hk ht).cell
def WsB (w : World) (b off : Nat) (ws : List ByteArray) : Prop := ∀ (i : Nat) x, ws[i]? = some x → StrB w b (off + i) x
theorem WsB.below {w w' : World} {b off : Nat} {ws : List ByteArray} (h : WsB w b off ws) (hb : Below w.heap.size w w') : WsB w' b off ws := fun i x hx => (h i x hx).below hb
theorem rj_more (l : List Ix) (y : Ix) (J : List Jm) (h : ∀ j ∈ J, j.place ≤ l.length) : rjVals (l ++ [y]) J = rjVals l J := by
  unfold rjVals
  induction J with
  | nil => rfl
  | cons j J ih =>
    rw [List.flatMap_cons, List.flatMap_cons, ih (fun k hk => h k (List.mem_cons_of_mem _ hk))]
    congr 1
    unfold rjCells
    rw [adr_app _ _ _ (h j List.mem_cons_self)]
theorem read_ins_of {st : Rs} {nn : Nat} {x : ByteArray} {r : List ByteArray} (hx : 1 ≤ x.size) (h : ¬ (r = [] ∧ byteAt x (x.size - 1) = 58)) : readS st nn (x :: r) = if (opD x).2 = false ∨ r.length ≠ opnN (opD x).1 then (231, st) else if jmpN (opD x).1 = true then jumpS st nn (opD x).1 (r.getD 0 ⟨#[]⟩) else plainS st (opD x).1 r := by
  rw [readS_cons, if_neg]
  intro hc
  rw [Bool.and_eq_true, Bool.and_eq_true] at hc
  obtain ⟨⟨h1, h2⟩, _⟩ := hc
  have h2 := of_decide_eq_true h2
  rw [(col_last x hx).1] at h1
  refine h ⟨List.eq_nil_of_length_eq_zero (by simpa using h2), of_decide_eq_true h1⟩
theorem wAB_le {op : Nat} (h : op < 34) : wA op ≤ 4 ∧ wB op ≤ 4 := by
  have hall : ∀ k, k < 34 → wA k ≤ 4 ∧ wB k ≤ 4 := by decide +kernel
  exact hall op h
set_option maxHeartbeats 16000000 in
theorem refIns_any (g B : Nat) (st : Rs) (vb vj vl : Value) (nn b off cap : Nat) (x : ByteArray) (r : List ByteArray) (w : World) (h : RfW w B g st vb vj vl) (hG : GdS st) (hjl : st.jumps.length ≤ 100000) (hnn : nn ≤ 100000)
    (hws : WsB w b off (x :: r)) (hsz : ∀ y ∈ x :: r, 1 ≤ y.size ∧ y.size ≤ 1048576) (hlen : (x :: r).length ≤ 1048577) (hcap : (x :: r).length ≤ cap) (hnl : ¬ (r = [] ∧ byteAt x (x.size - 1) = 58)) :
    Calls Tryz.prog 23 #[.pointer (some ⟨g, 0, none⟩), .int .i64 (nn : Int), .slice (some ⟨b, off, none⟩) (x :: r).length cap] w fun e w' => RfIs w w' B g (readS st nn (x :: r)) e := by
  have hxz := hsz x List.mem_cons_self
  have ers := read_ins_of (st := st) (nn := nn) hxz.1 hnl
  obtain ⟨n, HNL⟩ : ∃ n, Hid ((x :: r).length = n) := ⟨_, hide rfl⟩
  have hrn : r.length + 1 = n := by rw [← unhide HNL]; rfl
  have HRN := hide hrn
  rw [unhide HNL] at hlen hcap ⊢
  obtain ⟨res, HRES⟩ : ∃ q, Hid (readS st nn (x :: r) = q) := ⟨_, hide rfl⟩
  rw [unhide HRES] at ers ⊢
  obtain ⟨m, hm⟩ : ∃ m, x.size = m + 1 := ⟨x.size - 1, by omega⟩
  have hm1 : x.size - 1 = m := by omega
  rw [hm1] at hnl
  have hml : m < x.size := by omega
  have ek := byteAt_eq x m hml
  have HN58 : Hid (((n : Int) == 1) = false ∨ ((n : Int) == 1) = true ∧ (((x[m]'hml).toNat : Int) == 58) = false) := hide (by
    by_cases h1 : n = 1
    · refine Or.inr ⟨beq_t (by omega), ?_⟩
      rw [← ek]
      exact beq_f (fun e => hnl ⟨List.eq_nil_of_length_eq_zero (by omega), e⟩)
    · exact Or.inl (beq_f (by omega)))
  have hx0 : w.cell? ⟨b, off, none⟩ = some (.string x) := (hws 0 x rfl).cell
  have hn0 : 0 < n := by omega
  have HOP := hide (refOp_any x w)
  have HH := hide h
  have HGD := hide hG
  have HWS := hide hws
  have HSZ := hide hsz
  have HBS := hide h.size_le
  have HERS := hide ers
  have HCAP := hide hcap
  have HLE := hide hG.le
  have HGS := hide hG.sz
  have HJL := hide hjl
  have HNN := hide hnn
  clear ek hm1 h hG hws hsz ers hnl hrn hcap hjl hnn HRES
  obtain ⟨q, HQ⟩ : ∃ q, Hid ((opD x).2 = q) := ⟨_, hide rfl⟩
  rw [unhide HQ] at HOP HERS
  have hop34 : q = true → (opD x).1 < 34 := fun e => (opD_hit ((unhide HQ).trans e)).1
  generalize (opD x).1 = op at *
  have HOP34 := hide hop34
  clear hop34
  go_enter Tryz.func23, Tryz.ntmps23
  go_upto_region 3 with fail
  go_cut [29] (fun v wx => v = .bool false ∧ Hid (wx = w))
  case first =>
    clear HH HGD HWS HSZ HERS HOP
    rcases unhide HN58 with t0 | ⟨t0, t1⟩
    · go_wp2
      go_meet
      exact ⟨rfl, hide rfl⟩
    · go_wp2
      go_meet
      exact ⟨rfl, hide rfl⟩
  case rest =>
  obtain ⟨rfl, HWX⟩ := hcut
  rw [unhide HWX]
  clear HWX HN58
  go_wp2_with fail
  refine (unhide HOP).mono ?_
  rintro e w1 ⟨rfl, hb1⟩
  have HX1 := hide ((unhide HH).below hb1)
  have HWS1 := hide ((unhide HWS).below hb1)
  have HK1 := hide (kqFB hb1 (unhide HBS))
  clear hb1 HH HWS HOP hx0
  cases q with
  | false =>
    rw [if_pos (Or.inl rfl)] at HERS
    clear HX1 HWS1 HGD
    go_wp2
    go_ret
    rw [unhide HERS]
    exact ⟨rfl, unhide HK1, fun e0 => absurd e0 (show ¬ (231 : Int) = 0 by decide)⟩
  | true =>
    have ho34 := unhide HOP34 rfl
    have HON := hide (refOperands_any op w1 (by omega))
    have ht2 := opn_le op
    by_cases hne : r.length ≠ opnN op
    · rw [if_pos (Or.inr hne)] at HERS
      have t0 : ((n : Int) != 1 + (opnN op : Int)) = true := bne_t (by have := unhide HRN; omega)
      clear hne ho34 HX1 HWS1 HGD
      go_wp2_with (go_at_call 40; refine (unhide HON).mono ?_; rintro e W3 ⟨rfl, hw⟩; rw [hw]; clear hw)
      go_ret
      rw [unhide HERS]
      exact ⟨rfl, unhide HK1, fun e0 => absurd e0 (show ¬ (231 : Int) = 0 by decide)⟩
    · have hne' : r.length = opnN op := Classical.byContradiction hne
      rw [if_neg (by rw [hne']; simp)] at HERS
      have t0 : ((n : Int) != 1 + (opnN op : Int)) = false := bne_f (by have := unhide HRN; omega)
      have HLR := hide hne'
      have HO34 := hide ho34
      have HGI : Hid (B ≤ w1.heap.size) := hide (unhide HX1).size_le
      have al : Below w1.heap.size w1 (w1.alloc (.cells #[.int .i64 0, .int .u8 (op : Int), .int .i64 0, .int .i64 0] 72)) := (Below.refl _ _).alloc (Nat.le_refl _) _
      have HI2 : Hid (Bx (w1.alloc (.cells #[.int .i64 0, .int .u8 (op : Int), .int .i64 0, .int .i64 0] 72)) w1.heap.size 72 (insC op 0 0)) := hide (heap_alloc_new w1 _)
      have HX2 := hide ((unhide HX1).below al)
      have HWS2 := hide ((unhide HWS1).below al)
      have HK2 := hide ((unhide HK1).trans (kqFB al (unhide HX1).size_le))
      clear hne hne' ho34 HX1 HWS1 HK1 al
      go_upto_region 14 with (go_at_call 40; refine (unhide HON).mono ?_; rintro e W3 ⟨rfl, hw⟩; rw [hw]; clear hw)
      generalize (w1.alloc (.cells #[.int .i64 0, .int .u8 (op : Int), .int .i64 0, .int .i64 0] 72)) = w2 at HI2 HX2 HWS2 HK2 ⊢
      generalize w1.heap.size = gi at HI2 HGI ⊢
      clear HON t0 ht2
      have HJU : Hid (Calls Tryz.prog 35 #[.int .u8 (op : Int)] w2 fun e w' => e = .returned (.bool (jmpN op)) ∧ w' = w2) := hide (refJumps_any op w2)
      obtain ⟨jq, HJQ⟩ : ∃ jq, Hid (jmpN op = jq) := ⟨_, hide rfl⟩
      rw [unhide HJQ] at HJU HERS
      go_upto_if 77 with (go_at_call 35; refine (unhide HJU).mono ?_; rintro e w9 ⟨rfl, hw⟩; rw [hw]; clear hw)
      go_cut [] (fun wx => Hid (∃ st2 a b vb vj vl, RfW wx B g st2 vb vj vl ∧ Bx wx gi 72 (insC op a b) ∧ st2.list = st.list ∧ st2.size = st.size ∧ (∀ j ∈ st2.jumps, j.place ≤ st2.list.length) ∧ res = putS st2 op a b) ∧ Hid (Kq B tsF [] w wx))
      case first =>
        cases jq with
        | true =>
          rw [if_pos rfl] at HERS
          have h1 := (w_zero op (unhide HO34)).2.2 (unhide HJQ)
          have hr1 : r.length = 1 := by rw [unhide HLR, h1]
          obtain ⟨x1, rfl⟩ : ∃ x1, r = [x1] := List.length_eq_one_iff.1 hr1
          have HSB : Hid (StrB w2 b (off + 1) x1) := hide (unhide HWS2 1 x1 rfl)
          have hc1 := (unhide HSB).cell
          have hzx := (unhide HSZ x1 (by simp)).2
          have HNB := hide (refNameW_any x1 w2 (by unfold maxLen; omega))
          have i1 : (1 : Int) < (n : Int) := by have := unhide HRN; simp at this; omega
          have HERS2 : Hid (res = jumpS st nn op x1) := HERS
          unfold jumpS at HERS2
          clear HERS h1 hr1 HLR HWS2 HSZ
          cases hnb : nameB x1 with
          | false =>
            rw [hnb] at HNB HERS2
            rw [if_neg (by decide)] at HERS2
            clear hnb
            go_wp2_with (go_at_call 55; refine (unhide HNB).mono ?_; rintro e w9 ⟨rfl, hw⟩; rw [hw]; clear hw)
            go_ret
            rw [unhide HERS2]
            exact ⟨rfl, unhide HK2, fun e0 => absurd e0 (show ¬ (231 : Int) = 0 by decide)⟩
          | true =>
            rw [hnb] at HNB HERS2
            rw [if_pos rfl] at HERS2
            obtain ⟨ja, jc, rfl⟩ := OwnRj.slice (unhide HX2).jmp
            obtain ⟨oa, oc, rfl⟩ := OwnB.slice (unhide HX2).bts
            obtain ⟨i0, hi0, hz0, hz1, hz2⟩ := info_parts infoRj
            have HPL : ∀ j ∈ st.jumps ++ [⟨nn, st.list.length, x1⟩], j.place ≤ st.list.length := fun j hj => by
              rcases List.mem_append.1 hj with hj | hj
              · obtain ⟨y, hy, _⟩ := (unhide HGD).jmp j hj
                have := (List.getElem?_eq_some_iff.1 hy).1
                omega
              · rw [List.mem_singleton] at hj; rw [hj]; exact Nat.le_refl _
            have HP := HERS2
            clear hnb
            go_upto_region 17 with (go_at_call 55; refine (unhide HNB).mono ?_; rintro e w9 ⟨rfl, hw⟩; rw [hw]; clear hw)
            have HX1 := HX2
            have HK1 := HK2
            have HI1 := HI2
            clear HX2 HK2 HI2 HNB HGD hc1 HERS2
            generalize w2 = w1 at HX1 HK1 HI1 HSB ⊢
            have HPH := hide HPL
            have hjl := unhide HJL
            have hnn := unhide HNN
            clear HPL
            have hR0 := (unhide HX1).box
            have HD : Hid (Below w1.heap.size w1 w1.drew) := hide (belowD (Below.refl _ _) 1)
            have hS0 : w1.drew.cell? ⟨g, 0, none⟩ = some (.slice oa (encs st.list).length oc) ∧ w1.drew.cell? ⟨b, off + 1, none⟩ = some (.string x1) := ⟨hR0.c 0 (v := .slice oa (encs st.list).length oc) rfl, ((unhide HSB).below (unhide HD)).cell⟩
            have HRd : Hid (Bx w1.drew g 58 (rfC (.slice oa (encs st.list).length oc) (.slice ja st.jumps.length jc) vl)) := hR0
            have HRW : Hid (RfW w1.drew B g st (.slice oa (encs st.list).length oc) (.slice ja st.jumps.length jc) vl) := hide ((unhide HX1).below (unhide HD))
            have HKd : Hid (Kq B tsF [] w w1.drew) := hide ((unhide HK1).trans (kqFB (unhide HD) (unhide HX1).size_le))
            have HIW : Hid (Bx w1.drew gi 72 (insC op 0 0)) := hide ((unhide HI1).below (unhide HD))
            have hStr0 : StrB w1.drew b (off + 1) x1 := (unhide HSB).below (unhide HD)
            refine wp_region_held_drew (S := fun w' => w'.cell? ⟨g, 0, none⟩ = some (.slice oa (encs st.list).length oc) ∧ w'.cell? ⟨b, off + 1, none⟩ = some (.string x1)) (by kernel_rfl) hS0 (fun hS => ?_)
            clear hS0 hR0 HX1 HK1 HD HI1 HSB
            generalize w1.drew = Wd at hS HRd HRW HKd HIW hStr0 ⊢
            have cF := (unhide HRd).c 1 (v := (.slice ja st.jumps.length jc)) rfl
            have hBd := (unhide HRW).size_le
            refine wpAnyH_take (i := 0) (v := .pointer (some ⟨g, 0, none⟩)) rfl (by kernel_rfl) (by kernel_rfl) (by kernel_rfl) (fun _ _ _ h => h) (Or.inl ⟨by rfl, fun w hw => by obtain ⟨hw1, hw2⟩ := hw; go_simp⟩) hS ?_
            refine wpAnyH_take (i := 1) (v := .pointer (some ⟨g, 0, none⟩)) rfl (by kernel_rfl) (by kernel_rfl) (by kernel_rfl) (fun _ _ _ h => h) (Or.inl ⟨by rfl, fun w hw => by obtain ⟨hw1, hw2⟩ := hw; go_simp⟩) hS ?_
            go_simp
            refine wpAnyH_take (i := 2) (v := .pointer (some ⟨g, 0, none⟩)) rfl (by kernel_rfl) (by kernel_rfl) (by kernel_rfl) (fun _ _ _ h => h) (Or.inl ⟨by rfl, fun w hw => by obtain ⟨hw1, hw2⟩ := hw; go_simp⟩) hS ?_
            refine wpAnyH_take (i := 3) (v := .pointer (some ⟨g, 1, none⟩)) rfl (by kernel_rfl) (by kernel_rfl) (by kernel_rfl) (fun _ _ _ h => h) (Or.inl ⟨by rfl, fun w hw => by obtain ⟨hw1, hw2⟩ := hw; go_simp⟩) hS ?_
            go_simp
            refine wpAnyH_take (i := 5) (v := .int .i64 (nn : Int)) rfl (by kernel_rfl) (by kernel_rfl) (by kernel_rfl) (fun _ _ _ h => h) (Or.inl ⟨by rfl, fun w hw => by obtain ⟨hw1, hw2⟩ := hw; go_simp⟩) hS ?_
            refine wpAnyH_take (i := 6) (v := .pointer (some ⟨g, 0, none⟩)) rfl (by kernel_rfl) (by kernel_rfl) (by kernel_rfl) (fun _ _ _ h => h) (Or.inl ⟨by rfl, fun w hw => by obtain ⟨hw1, hw2⟩ := hw; go_simp⟩) hS ?_
            go_simp
            refine wpAnyH_take (i := 7) (v := .pointer (some ⟨g, 0, none⟩)) rfl (by kernel_rfl) (by kernel_rfl) (by kernel_rfl) (fun _ _ _ h => h) (Or.inl ⟨by rfl, fun w hw => by obtain ⟨hw1, hw2⟩ := hw; go_simp⟩) hS ?_
            refine wpAnyH_take (i := 8) (v := .pointer (some ⟨g, 0, none⟩)) rfl (by kernel_rfl) (by kernel_rfl) (by kernel_rfl) (fun _ _ _ h => h) (Or.inl ⟨by rfl, fun w hw => by obtain ⟨hw1, hw2⟩ := hw; go_simp⟩) hS ?_
            go_simp
            refine wpAnyH_take (i := 9) (v := .slice oa (encs st.list).length oc) rfl (by kernel_rfl) (by kernel_rfl) (by kernel_rfl) (fun _ _ _ h => h) (Or.inl ⟨by rfl, fun w hw => by obtain ⟨hw1, hw2⟩ := hw; go_simp⟩) hS ?_
            refine wpAnyH_take (i := 10) (v := .int .i64 ((encs st.list).length : Int)) rfl (by kernel_rfl) (by kernel_rfl) (by kernel_rfl) (fun _ _ _ h => h) (Or.inl ⟨by rfl, fun w hw => by obtain ⟨hw1, hw2⟩ := hw; go_simp⟩) hS ?_
            go_simp
            refine wpAnyH_take (i := 11) (v := .slice (some ⟨b, off, none⟩) n cap) rfl (by kernel_rfl) (by kernel_rfl) (by kernel_rfl) (fun _ _ _ h => h) (Or.inl ⟨by rfl, fun w hw => by obtain ⟨hw1, hw2⟩ := hw; go_simp⟩) hS ?_
            refine wpAnyH_take (i := 12) (v := .pointer (some ⟨b, off + 1, none⟩)) rfl (by kernel_rfl) (by kernel_rfl) (by kernel_rfl) (fun _ _ _ h => h) (Or.inl ⟨by rfl, fun w hw => by obtain ⟨hw1, hw2⟩ := hw; go_simp⟩) hS ?_
            go_simp
            refine wpAnyH_take (i := 13) (v := .string x1) rfl (by kernel_rfl) (by kernel_rfl) (by kernel_rfl) (fun _ _ _ h => h) (Or.inl ⟨by rfl, fun w hw => by obtain ⟨hw1, hw2⟩ := hw; go_simp⟩) hS ?_
            refine wpAnyH_take (i := 14) (v := .agg #[.int .i64 (nn : Int), .int .i64 ((encs st.list).length : Int), .string x1]) rfl (by kernel_rfl) (by kernel_rfl) (by kernel_rfl) (fun _ _ _ h => h) (Or.inl ⟨by rfl, fun w hw => by obtain ⟨hw1, hw2⟩ := hw; go_simp⟩) hS ?_
            go_simp
            refine wpAnyH_ready (rs := [4, 15]) (by kernel_rfl) (by simp) ?_
            refine (AllReadyH.cons rfl (fun K hK => ?_) (AllReadyH.cons rfl (fun K hK => ?_) AllReadyH.nil))
            · go_simp
              refine hK.out _ _ hS (fun hS1 => ?_)
              clear hK K
              refine wpAnyH_ready (rs := [15]) (by kernel_rfl) (by simp) ?_
              refine (AllReadyH.cons rfl (fun K hK => ?_) AllReadyH.nil)
              go_simp
              have hSA : (Wd.alloc (.cells #[.int .i64 (nn : Int), .int .i64 ((encs st.list).length : Int), .string x1] 60)).cell? ⟨g, 0, none⟩ = some (.slice oa (encs st.list).length oc) ∧ (Wd.alloc (.cells #[.int .i64 (nn : Int), .int .i64 ((encs st.list).length : Int), .string x1] 60)).cell? ⟨b, off + 1, none⟩ = some (.string x1) := ⟨(Bx.below (unhide HRd) ((Below.refl Wd.heap.size Wd).alloc (Nat.le_refl _) (.cells #[.int .i64 (nn : Int), .int .i64 ((encs st.list).length : Int), .string x1] 60))).c 0 (v := .slice oa (encs st.list).length oc) rfl, ((Below.refl Wd.heap.size Wd).alloc (Nat.le_refl _) (.cells #[.int .i64 (nn : Int), .int .i64 ((encs st.list).length : Int), .string x1] 60)).cell (p := ⟨b, off + 1, none⟩) (World.block_lt_of_cell? Wd _ hS.2) |>.trans hS.2⟩
              refine hK.out _ _ hSA (fun hS2 => ?_)
              have HOd : Hid (World.ownsRow (Wd.alloc (.cells #[.int .i64 (nn : Int), .int .i64 ((encs st.list).length : Int), .string x1] 60)) B 60 3 (.slice ja st.jumps.length jc) st.jumps.length (rjVals st.list st.jumps)) := hide (World.ownsRow.alloc (unhide HRW).jmp _)
              clear hK K
              refine wpAnyH_ready (rs := [16]) (by kernel_rfl) (by simp) ?_
              refine AllReadyH.cons rfl (fun K hK => ?_) AllReadyH.nil
              rw [if_pos (by rfl)]
              refine wp_append_lies (w := (Wd.alloc (.cells #[.int .i64 (nn : Int), .int .i64 ((encs st.list).length : Int), .string x1] 60))) _ _ 55 (by rfl) B 60 i0 _ 3 32 Tryz.underlying55 hi0 hz0 hz1 hz2 rfl (by omega) (.slice ja st.jumps.length jc) st.jumps.length (rjVals st.list st.jumps) (by rfl) (unhide HOd) ⟨Wd.heap.size, 0, none⟩ 1 1 (rjNew nn (encs st.list).length x1) (by rfl) (by rfl) (World.news_of_block (cs := (rjNew nn (encs st.list).length x1).toArray) (t := 60) (fr := (0, 0)) (heap_alloc_new Wd _)) (by intro u hu; simp [rjNew] at hu; rcases hu with rfl | rfl | rfl <;> rfl) (by omega) (by unfold maxLen; omega) (by omega) (by simp; omega) (Wd.heap.size + 1) (by simp) ?_
              intro g3 cap3 w3 hown hgrow hat hlt3
              have HR3 : Hid (Bx w3 g 58 (rfC (.slice oa (encs st.list).length oc) (.slice ja st.jumps.length jc) vl)) := hide (Bx.grown (Bx.below (unhide HRd) ((Below.refl Wd.heap.size Wd).alloc (Nat.le_refl _) _)) hgrow (own_no (unhide HRW).jmp (unhide HRd) (by decide)))
              have HKA : Hid (Kq B [60] [] Wd w3) := hide ((Kq.of_below ((Below.refl Wd.heap.size Wd).alloc (Nat.le_refl _) _) (unhide HRW).size_le).trans (Kq.of_grown hgrow (by have := (unhide HRW).size_le; simp; omega) (fun k hk => by obtain ⟨h1, cs, t, fr, h2, h3⟩ := own_blockA (unhide HOd) k hk; exact ⟨h1, Or.inr ⟨cs, t, fr, h2, h3⟩⟩)))
              have kS : w3.cell? ⟨g, 0, none⟩ = some (.slice oa (encs st.list).length oc) ∧ w3.cell? ⟨b, off + 1, none⟩ = some (.string x1) := ⟨(unhide HR3).c 0 (v := .slice oa (encs st.list).length oc) rfl, str_kq (unhide HKA) hStr0 (by decide)⟩
              have kF := (unhide HR3).c 1 (v := (.slice ja st.jumps.length jc)) rfl
              have fF := (unhide HR3).f 1
              have HR4 : Hid (Bx (w3.setCell ⟨g, 1, none⟩ (.slice (some ⟨g3, 0, none⟩) (st.jumps.length + 1) cap3)) g 58 (rfC (.slice oa (encs st.list).length oc) (.slice (some ⟨g3, 0, none⟩) (st.jumps.length + 1) cap3) vl)) := hide ((unhide HR3).set 1 _ rfl)
              have HK4 : Hid (Kq B [60, 58] [] Wd (w3.setCell ⟨g, 1, none⟩ (.slice (some ⟨g3, 0, none⟩) (st.jumps.length + 1) cap3))) := hide (((unhide HKA).mono (Nat.le_refl _) (fun t ht => by simp at ht ⊢; exact Or.inl ht) (fun g hg => hg)).trans (Kq.set (gs := []) (unhide HR3) (unhide HRW).bg (by simp) 1 (.slice (some ⟨g3, 0, none⟩) (st.jumps.length + 1) cap3)))
              have HO4 : Hid (OwnRj (w3.setCell ⟨g, 1, none⟩ (.slice (some ⟨g3, 0, none⟩) (st.jumps.length + 1) cap3)) B (.slice (some ⟨g3, 0, none⟩) (st.jumps.length + 1) cap3) st.list (st.jumps ++ [⟨nn, st.list.length, x1⟩])) := hide (rj_snoc hown (unhide HR3) (by decide))
              have HX4 : Hid (RfW (w3.setCell ⟨g, 1, none⟩ (.slice (some ⟨g3, 0, none⟩) (st.jumps.length + 1) cap3)) B g { st with jumps := st.jumps ++ [⟨nn, st.list.length, x1⟩] } (.slice oa (encs st.list).length oc) (.slice (some ⟨g3, 0, none⟩) (st.jumps.length + 1) cap3) vl) := hide (by
                have hq := unhide HRW
                exact ⟨unhide HR4, own_kq hq.bts (unhide HK4) (by simp) (by decide), unhide HO4, own_kq hq.lab (unhide HK4) (by simp) (by decide), hq.bg⟩)
              have HK5 : Hid (Kq B tsF [] w (w3.setCell ⟨g, 1, none⟩ (.slice (some ⟨g3, 0, none⟩) (st.jumps.length + 1) cap3))) := hide ((unhide HKd).trans (kqF (unhide HK4) (fun t ht => by simp at ht ⊢; rcases ht with h | h <;> simp [h])))
              have hS8 : (w3.setCell ⟨g, 1, none⟩ (.slice (some ⟨g3, 0, none⟩) (st.jumps.length + 1) cap3)).cell? ⟨g, 0, none⟩ = some (.slice oa (encs st.list).length oc) ∧ (w3.setCell ⟨g, 1, none⟩ (.slice (some ⟨g3, 0, none⟩) (st.jumps.length + 1) cap3)).cell? ⟨b, off + 1, none⟩ = some (.string x1) := ⟨(unhide HR4).c 0 (v := .slice oa (encs st.list).length oc) rfl, str_kq (unhide HK4) hStr0 (by decide)⟩
              refine hK.out _ _ kS (fun hS7 => ?_)
              clear hK K hown hgrow hat hlt3
              refine wpAnyH_take (i := 17) (v := .pointer (some ⟨g, 0, none⟩)) rfl (by kernel_rfl) (by kernel_rfl) (by kernel_rfl) (fun _ _ _ h => h) (Or.inl ⟨by rfl, fun w _ => by go_simp⟩) hS7 ?_
              refine wpAnyH_take (i := 18) (v := .pointer (some ⟨g, 1, none⟩)) rfl (by kernel_rfl) (by kernel_rfl) (by kernel_rfl) (fun _ _ _ h => h) (Or.inl ⟨by rfl, fun w _ => by go_simp⟩) hS7 ?_
              refine wpAnyH_ready (rs := [19]) (by kernel_rfl) (by simp) ?_
              refine (AllReadyH.cons rfl (fun K hK => ?_) AllReadyH.nil)
              go_simp
              refine hK.out _ _ hS8 (fun hS9 => ?_)
              clear hK K
              refine wpAnyH_done (by kernel_rfl) ?_ _
              have HI4 := hide ((unhide HIW).kq (unhide HK4) (by simp) (by decide))
              go_wp2_with fail
              go_meet
              exact ⟨hide ⟨_, _, _, _, _, _, unhide HX4, unhide HI4, rfl, rfl, unhide HPH, unhide HP⟩, HK5⟩
            · go_simp
              have hSA : (Wd.alloc (.cells #[.int .i64 (nn : Int), .int .i64 ((encs st.list).length : Int), .string x1] 60)).cell? ⟨g, 0, none⟩ = some (.slice oa (encs st.list).length oc) ∧ (Wd.alloc (.cells #[.int .i64 (nn : Int), .int .i64 ((encs st.list).length : Int), .string x1] 60)).cell? ⟨b, off + 1, none⟩ = some (.string x1) := ⟨(Bx.below (unhide HRd) ((Below.refl Wd.heap.size Wd).alloc (Nat.le_refl _) (.cells #[.int .i64 (nn : Int), .int .i64 ((encs st.list).length : Int), .string x1] 60))).c 0 (v := .slice oa (encs st.list).length oc) rfl, ((Below.refl Wd.heap.size Wd).alloc (Nat.le_refl _) (.cells #[.int .i64 (nn : Int), .int .i64 ((encs st.list).length : Int), .string x1] 60)).cell (p := ⟨b, off + 1, none⟩) (World.block_lt_of_cell? Wd _ hS.2) |>.trans hS.2⟩
              have cA := (Bx.below (unhide HRd) ((Below.refl Wd.heap.size Wd).alloc (Nat.le_refl _) (.cells #[.int .i64 (nn : Int), .int .i64 ((encs st.list).length : Int), .string x1] 60))).c 1 (v := (.slice ja st.jumps.length jc)) rfl
              refine hK.out _ _ hSA (fun hS1 => ?_)
              clear hK K
              refine wpAnyH_ready (rs := [4]) (by kernel_rfl) (by simp) ?_
              refine (AllReadyH.cons rfl (fun K hK => ?_) AllReadyH.nil)
              go_simp
              refine hK.out _ _ hSA (fun hS2 => ?_)
              have HOd : Hid (World.ownsRow (Wd.alloc (.cells #[.int .i64 (nn : Int), .int .i64 ((encs st.list).length : Int), .string x1] 60)) B 60 3 (.slice ja st.jumps.length jc) st.jumps.length (rjVals st.list st.jumps)) := hide (World.ownsRow.alloc (unhide HRW).jmp _)
              clear hK K
              refine wpAnyH_ready (rs := [16]) (by kernel_rfl) (by simp) ?_
              refine AllReadyH.cons rfl (fun K hK => ?_) AllReadyH.nil
              rw [if_pos (by rfl)]
              refine wp_append_lies (w := (Wd.alloc (.cells #[.int .i64 (nn : Int), .int .i64 ((encs st.list).length : Int), .string x1] 60))) _ _ 55 (by rfl) B 60 i0 _ 3 32 Tryz.underlying55 hi0 hz0 hz1 hz2 rfl (by omega) (.slice ja st.jumps.length jc) st.jumps.length (rjVals st.list st.jumps) (by rfl) (unhide HOd) ⟨Wd.heap.size, 0, none⟩ 1 1 (rjNew nn (encs st.list).length x1) (by rfl) (by rfl) (World.news_of_block (cs := (rjNew nn (encs st.list).length x1).toArray) (t := 60) (fr := (0, 0)) (heap_alloc_new Wd _)) (by intro u hu; simp [rjNew] at hu; rcases hu with rfl | rfl | rfl <;> rfl) (by omega) (by unfold maxLen; omega) (by omega) (by simp; omega) (Wd.heap.size + 1) (by simp) ?_
              intro g3 cap3 w3 hown hgrow hat hlt3
              have HR3 : Hid (Bx w3 g 58 (rfC (.slice oa (encs st.list).length oc) (.slice ja st.jumps.length jc) vl)) := hide (Bx.grown (Bx.below (unhide HRd) ((Below.refl Wd.heap.size Wd).alloc (Nat.le_refl _) _)) hgrow (own_no (unhide HRW).jmp (unhide HRd) (by decide)))
              have HKA : Hid (Kq B [60] [] Wd w3) := hide ((Kq.of_below ((Below.refl Wd.heap.size Wd).alloc (Nat.le_refl _) _) (unhide HRW).size_le).trans (Kq.of_grown hgrow (by have := (unhide HRW).size_le; simp; omega) (fun k hk => by obtain ⟨h1, cs, t, fr, h2, h3⟩ := own_blockA (unhide HOd) k hk; exact ⟨h1, Or.inr ⟨cs, t, fr, h2, h3⟩⟩)))
              have kS : w3.cell? ⟨g, 0, none⟩ = some (.slice oa (encs st.list).length oc) ∧ w3.cell? ⟨b, off + 1, none⟩ = some (.string x1) := ⟨(unhide HR3).c 0 (v := .slice oa (encs st.list).length oc) rfl, str_kq (unhide HKA) hStr0 (by decide)⟩
              have kF := (unhide HR3).c 1 (v := (.slice ja st.jumps.length jc)) rfl
              have fF := (unhide HR3).f 1
              have HR4 : Hid (Bx (w3.setCell ⟨g, 1, none⟩ (.slice (some ⟨g3, 0, none⟩) (st.jumps.length + 1) cap3)) g 58 (rfC (.slice oa (encs st.list).length oc) (.slice (some ⟨g3, 0, none⟩) (st.jumps.length + 1) cap3) vl)) := hide ((unhide HR3).set 1 _ rfl)
              have HK4 : Hid (Kq B [60, 58] [] Wd (w3.setCell ⟨g, 1, none⟩ (.slice (some ⟨g3, 0, none⟩) (st.jumps.length + 1) cap3))) := hide (((unhide HKA).mono (Nat.le_refl _) (fun t ht => by simp at ht ⊢; exact Or.inl ht) (fun g hg => hg)).trans (Kq.set (gs := []) (unhide HR3) (unhide HRW).bg (by simp) 1 (.slice (some ⟨g3, 0, none⟩) (st.jumps.length + 1) cap3)))
              have HO4 : Hid (OwnRj (w3.setCell ⟨g, 1, none⟩ (.slice (some ⟨g3, 0, none⟩) (st.jumps.length + 1) cap3)) B (.slice (some ⟨g3, 0, none⟩) (st.jumps.length + 1) cap3) st.list (st.jumps ++ [⟨nn, st.list.length, x1⟩])) := hide (rj_snoc hown (unhide HR3) (by decide))
              have HX4 : Hid (RfW (w3.setCell ⟨g, 1, none⟩ (.slice (some ⟨g3, 0, none⟩) (st.jumps.length + 1) cap3)) B g { st with jumps := st.jumps ++ [⟨nn, st.list.length, x1⟩] } (.slice oa (encs st.list).length oc) (.slice (some ⟨g3, 0, none⟩) (st.jumps.length + 1) cap3) vl) := hide (by
                have hq := unhide HRW
                exact ⟨unhide HR4, own_kq hq.bts (unhide HK4) (by simp) (by decide), unhide HO4, own_kq hq.lab (unhide HK4) (by simp) (by decide), hq.bg⟩)
              have HK5 : Hid (Kq B tsF [] w (w3.setCell ⟨g, 1, none⟩ (.slice (some ⟨g3, 0, none⟩) (st.jumps.length + 1) cap3))) := hide ((unhide HKd).trans (kqF (unhide HK4) (fun t ht => by simp at ht ⊢; rcases ht with h | h <;> simp [h])))
              have hS8 : (w3.setCell ⟨g, 1, none⟩ (.slice (some ⟨g3, 0, none⟩) (st.jumps.length + 1) cap3)).cell? ⟨g, 0, none⟩ = some (.slice oa (encs st.list).length oc) ∧ (w3.setCell ⟨g, 1, none⟩ (.slice (some ⟨g3, 0, none⟩) (st.jumps.length + 1) cap3)).cell? ⟨b, off + 1, none⟩ = some (.string x1) := ⟨(unhide HR4).c 0 (v := .slice oa (encs st.list).length oc) rfl, str_kq (unhide HK4) hStr0 (by decide)⟩
              refine hK.out _ _ kS (fun hS7 => ?_)
              clear hK K hown hgrow hat hlt3
              refine wpAnyH_take (i := 17) (v := .pointer (some ⟨g, 0, none⟩)) rfl (by kernel_rfl) (by kernel_rfl) (by kernel_rfl) (fun _ _ _ h => h) (Or.inl ⟨by rfl, fun w _ => by go_simp⟩) hS7 ?_
              refine wpAnyH_take (i := 18) (v := .pointer (some ⟨g, 1, none⟩)) rfl (by kernel_rfl) (by kernel_rfl) (by kernel_rfl) (fun _ _ _ h => h) (Or.inl ⟨by rfl, fun w _ => by go_simp⟩) hS7 ?_
              refine wpAnyH_ready (rs := [19]) (by kernel_rfl) (by simp) ?_
              refine (AllReadyH.cons rfl (fun K hK => ?_) AllReadyH.nil)
              go_simp
              refine hK.out _ _ hS8 (fun hS9 => ?_)
              clear hK K
              refine wpAnyH_done (by kernel_rfl) ?_ _
              have HI4 := hide ((unhide HIW).kq (unhide HK4) (by simp) (by decide))
              go_wp2_with fail
              go_meet
              exact ⟨hide ⟨_, _, _, _, _, _, unhide HX4, unhide HI4, rfl, rfl, unhide HPH, unhide HP⟩, HK5⟩
        | false =>
          rw [if_neg (by decide)] at HERS
          have hcap := unhide HCAP
          have hr2 : r.length ≤ 2 := by rw [unhide HLR]; exact opn_le op
          obtain ⟨p1, p2⟩ := plain_ops (st := st) (op := op) (ws := r) (unhide HO34) hr2
          have HP1 : Hid (opsE r ≠ 0 → res = (opsE r, st)) := hide (fun e => (unhide HERS).trans (p1 e))
          have HP2 : Hid (opsE r = 0 → res = putS st op (valAt r 0) (valAt r 1)) := hide (fun e => (unhide HERS).trans (p2 e).1)
          have HPL : Hid (∀ j ∈ st.jumps, j.place ≤ st.list.length) := hide (fun j hj => by
            obtain ⟨y, hy, _⟩ := (unhide HGD).jmp j hj
            have := (List.getElem?_eq_some_iff.1 hy).1
            omega)
          obtain ⟨oe, HOE⟩ : ∃ oe, Hid (opsE r = oe) := ⟨_, hide rfl⟩
          have HCO : Hid (∀ ao c, (∀ i y, r[i]? = some y → ao = some ⟨b, off + 1, none⟩) → Calls Tryz.prog 57 #[.pointer (some ⟨gi, 0, none⟩), .slice ao r.length c] w2 fun e w' => OpsP w2 w' B gi op r e) := hide (fun ao c ha => refOps_any B gi op ao c r w2 (unhide HI2) (unhide HGI) (fun i y hy => ⟨b, off + 1, ha i y hy, by
              rw [show off + 1 + i = off + (i + 1) by omega]
              exact (unhide HWS2 (i + 1) y (by simpa using hy)).cell, (unhide HSZ y (by simp [List.mem_of_getElem? hy])).2⟩) hr2)
          unfold OpsP at HCO
          rw [unhide HOE] at HP1 HP2 HCO
          clear p1 p2 hlen HLR HERS HWS2 HSZ HGD hr2
          by_cases hc1 : cap = 1
          · subst hc1
            obtain rfl : n = 1 := by omega
            have hr0 : r.length = 0 := by have := unhide HRN; omega
            have hrn : r = [] := List.eq_nil_of_length_eq_zero hr0
            rw [hr0] at HCO
            have HC := hide (fun ao c => unhide HCO ao c (fun i y hy => by rw [hrn] at hy; simp at hy))
            clear HCO hr0 hrn
            by_cases ho : oe = 0
            · have t3 : (oe != 0) = false := bne_f ho
              have HOZ := hide ho
              clear ho
              go_wp2_with (go_at_call 57; refine (unhide HC _ _).mono ?_; rintro e w9 ⟨rfl, hk, a, b, hi, hab⟩)
              go_meet
              obtain ⟨rfl, rfl⟩ := hab (unhide HOZ)
              exact ⟨hide ⟨_, _, _, _, _, _, (unhide HX2).kqI hk, hi, rfl, rfl, unhide HPL, unhide HP2 (unhide HOZ)⟩, hide ((unhide HK2).trans (kqF hk (fun t ht => by simp at ht ⊢; simp [ht])))⟩
            · have t3 : (oe != 0) = true := bne_t ho
              have hres := unhide HP1 ho
              have HRR := hide hres
              have HOZ := hide ho
              clear ho hres
              go_wp2_with (go_at_call 57; refine (unhide HC _ _).mono ?_; rintro e w9 ⟨rfl, hk, a, b, hi, hab⟩)
              go_ret
              rw [unhide HRR]
              exact ⟨rfl, (unhide HK2).trans (kqF hk (fun t ht => by simp at ht ⊢; simp [ht])), fun e0 => absurd e0 (unhide HOZ)⟩
          · have hr0 : r.length = n - 1 := by have := unhide HRN; omega
            rw [hr0] at HCO
            have HC := hide (unhide HCO (some ⟨b, off + 1, none⟩) (cap - 1) (fun i y hy => rfl))
            clear HCO hr0
            by_cases ho : oe = 0
            · have t3 : (oe != 0) = false := bne_f ho
              have HOZ := hide ho
              clear ho
              go_wp2_with (go_at_call 57; refine (unhide HC).mono ?_; rintro e w9 ⟨rfl, hk, a, b, hi, hab⟩)
              go_meet
              obtain ⟨rfl, rfl⟩ := hab (unhide HOZ)
              exact ⟨hide ⟨_, _, _, _, _, _, (unhide HX2).kqI hk, hi, rfl, rfl, unhide HPL, unhide HP2 (unhide HOZ)⟩, hide ((unhide HK2).trans (kqF hk (fun t ht => by simp at ht ⊢; simp [ht])))⟩
            · have t3 : (oe != 0) = true := bne_t ho
              have hres := unhide HP1 ho
              have HRR := hide hres
              have HOZ := hide ho
              clear ho hres
              go_wp2_with (go_at_call 57; refine (unhide HC).mono ?_; rintro e w9 ⟨rfl, hk, a, b, hi, hab⟩)
              go_ret
              rw [unhide HRR]
              exact ⟨rfl, (unhide HK2).trans (kqF hk (fun t ht => by simp at ht ⊢; simp [ht])), fun e0 => absurd e0 (unhide HOZ)⟩
      case rest =>
      obtain ⟨HE, HK3⟩ := hcut
      obtain ⟨st2, a, bb, vb2, vj2, vl2, hx3, hi3, hl2, hs2, hp2, hres⟩ := unhide HE
      subst hres
      clear HE HI2 HX2 HWS2 HK2 HERS HJU HGD HSZ HLR
      obtain ⟨oa, oc, rfl⟩ := OwnB.slice hx3.bts
      have hsz2 : (encs st2.list).length ≤ 4096 := by
        rw [hl2, ← (unhide HGS)]
        exact unhide HLE
      have hszE : st2.size = (encs st2.list).length := by rw [hs2, hl2]; exact unhide HGS
      have c0 := hi3.c 0 (v := .int .i64 0) rfl
      have c1 := hi3.c 1 (v := .int .u8 (op : Int)) rfl
      have c2 := hi3.c 2 (v := .int .i64 a) rfl
      have c3 := hi3.c 3 (v := .int .i64 bb) rfl
      have HEN := hide (refEncode_any 0 op a bb wc (by have := unhide HO34; omega))
      have HX3 := hide hx3
      have HP3 := hide hp2
      have HSE := hide hszE
      clear hx3 hi3 hl2 hs2 hp2 hszE
      go_wp2_with fail
      refine (unhide HEN).mono ?_
      rintro e w4 ⟨v, rfl, hob, hb4⟩
      have HX4 := hide ((unhide HX3).below hb4)
      have HK4 := hide ((unhide HK3).trans (kqFB hb4 (unhide HX3).size_le))
      clear hb4 HX3 HK3 HEN c0 c1 c2 c3
      by_cases he : eE op a bb = 0
      case neg =>
        have t0 : (eE op a bb != 0) = true := bne_t he
        have hr : putS st2 op a bb = (eE op a bb, st2) := by unfold putS; rw [if_pos he]
        have HNE := hide he
        have HR := hide hr
        clear he hr hob
        go_wp2
        go_ret
        rw [unhide HR]
        exact ⟨rfl, unhide HK4, fun e0 => absurd e0 (unhide HNE)⟩
      case pos =>
      rw [he]
      have HSRC := hide hob.src
      obtain ⟨ma, mc, rfl⟩ := OwnB.slice hob
      have hel : (eL op a bb).length ≤ 16 := by
        have e1 : eL op a bb = encL op a bb := by unfold eL; rw [if_pos he]
        rw [e1, encL_length]
        have h1 : wA op ≤ 4 := (wAB_le (unhide HO34)).1
        have h2 : wB op ≤ 4 := (wAB_le (unhide HO34)).2
        omega
      have hr : putS st2 op a bb = if 4096 < (encs st2.list).length + (eL op a bb).length then (4, st2) else (0, { st2 with list := st2.list ++ [⟨0, op, a, bb⟩], size := st2.size + (eL op a bb).length }) := by
        unfold putS
        rw [if_neg (by rw [he]; decide), unhide HSE]
      have HR := hide hr
      obtain ⟨E, HEE⟩ : ∃ E, Hid (eL op a bb = E) := ⟨_, hide rfl⟩
      obtain ⟨L2, HL2⟩ : ∃ L2, Hid (encs st2.list = L2) := ⟨_, hide rfl⟩
      have HBT : Hid (OwnB w4 B (.slice oa L2.length oc) L2) := hide (by rw [← unhide HL2]; exact (unhide HX4).bts)
      rw [unhide HEE] at HSRC hel ⊢
      rw [unhide HEE, unhide HL2] at HR
      rw [unhide HL2] at hsz2
      have HBX : Hid (Bx w4 g 58 (rfC (.slice oa L2.length oc) vj2 vl2)) := hide (by rw [← unhide HL2]; exact (unhide HX4).box)
      have d0 := (unhide HBX).c 0 (v := .slice oa L2.length oc) rfl
      have hbase := (unhide HX4).size_le
      clear hr he hob
      by_cases hlong : 4096 < L2.length + E.length
      · have j1 : ((L2.length : Nat) : Int) + ((E.length : Nat) : Int) > 4096 := by omega
        rw [if_pos hlong] at HR
        clear hlong HSRC HBT
        go_wp2
        go_ret
        rw [unhide HR]
        exact ⟨rfl, unhide HK4, fun e0 => absurd e0 (show ¬ (4 : Int) = 0 by decide)⟩
      · have j1 : ¬ ((L2.length : Nat) : Int) + ((E.length : Nat) : Int) > 4096 := by omega
        rw [if_neg hlong] at HR
        clear hlong
        go_wp2_with (at_builtin; refine wpList_appendB rfl _ _ rfl B _ L2 rfl (unhide HBT) _ E rfl (unhide HSRC) (by omega) hbase ?_)
        intro v5 w5 hO5 hG5 _ _
        obtain ⟨va5, vc5, hv5⟩ := OwnB.slice hO5
        have hq := unhide HX4
        have HK5 : Hid (Kq B [5] [] w4 w5) := hide (Kq.of_grown hG5 hbase (fun k hk => by obtain ⟨h1, cs, t, fr, h2, h3⟩ := own_blockA (unhide HBT) k hk; exact ⟨h1, Or.inr ⟨cs, t, fr, h2, h3⟩⟩))
        have HB5 := hide ((unhide HBX).kq (unhide HK5) (by simp) (by decide))
        have k0 := (unhide HB5).c 0 (v := .slice oa L2.length oc) rfl
        have f0 := (unhide HB5).f 0
        have HB6 : Hid (Bx (w5.setCell ⟨g, 0, none⟩ v5) g 58 (rfC v5 vj2 vl2)) := hide ((unhide HB5).set 0 _ rfl)
        have HK6 : Hid (Kq B [5, 58] [] w4 (w5.setCell ⟨g, 0, none⟩ v5)) := hide (((unhide HK5).mono (Nat.le_refl _) (fun t ht => by simp at ht ⊢; exact Or.inl ht) (fun g hg => hg)).trans (Kq.set (gs := []) (unhide HB5) hq.bg (by simp) 0 v5))
        have HO6 : Hid (OwnB (w5.setCell ⟨g, 0, none⟩ v5) B v5 (L2 ++ E)) := hide (own_kq hO5 (Kq.set (B := 0) (ts := [58]) (gs := []) (unhide HB5) (Nat.zero_le _) (by simp) 0 v5) (by simp) (by decide))
        have HX6 : Hid (RfW (w5.setCell ⟨g, 0, none⟩ v5) B g { st2 with list := st2.list ++ [⟨0, op, a, bb⟩], size := st2.size + E.length } v5 vj2 vl2) := hide (by
          refine ⟨unhide HB6, ?_, ?_, own_kq hq.lab (unhide HK6) (by simp) (by decide), hq.bg⟩
          · show OwnB _ B v5 (encs (st2.list ++ [⟨0, op, a, bb⟩]))
            rw [encs_snoc, unhide HL2]
            show OwnB _ B v5 (L2 ++ eL op a bb)
            rw [unhide HEE]
            exact unhide HO6
          · have h1 := own_kq hq.jmp (unhide HK6) (by simp) (by decide)
            unfold OwnRj
            show World.ownsRow _ B _ 3 vj2 st2.jumps.length (rjVals (st2.list ++ [⟨0, op, a, bb⟩]) st2.jumps)
            rw [rj_more _ _ _ (unhide HP3)]
            exact h1)
        have HK7 := hide ((unhide HK4).trans (kqF (unhide HK6) (fun t ht => by simp at ht ⊢; rcases ht with h | h <;> simp [h])))
        subst hv5
        rw [List.length_append] at HK7 HX6
        clear hO5 hG5 hq HK5 HB6 HK6 HO6 HX4 HBT HSRC HBX HK4
        go_wp2
        go_ret
        rw [unhide HR]
        exact ⟨rfl, unhide HK7, fun _ => ⟨_, _, _, unhide HX6⟩⟩
end Go.Proofs.YthdgbdjagjagpaaGreatDoor

/-
  The document's reader: a line, whatever it is; a jump that is led, plainly. Conditions: lengths fit.
-/
namespace Go.Proofs.YthdgbdjagjagpaaGreatDoor
open Go.RowKit
set_option maxRecDepth 20000
set_option linter.unusedVariables false
set_option linter.unusedSimpArgs false

theorem refLine_any (g B : Nat) (st : Rs) (vb vj vl : Value) (nn b off cap : Nat) (x : ByteArray) (r : List ByteArray) (w : World) (h : RfW w B g st vb vj vl) (hG : GdS st) (hn : st.labs.length ≤ 1000000) (hjl : st.jumps.length ≤ 100000) (hnn : nn ≤ 100000)
    (hws : WsB w b off (x :: r)) (hsz : ∀ y ∈ x :: r, 1 ≤ y.size ∧ y.size ≤ 1048576) (hlen : (x :: r).length ≤ 1048577) (hcap : (x :: r).length ≤ cap) :
    Calls Tryz.prog 23 #[.pointer (some ⟨g, 0, none⟩), .int .i64 (nn : Int), .slice (some ⟨b, off, none⟩) (x :: r).length cap] w fun e w' => RfIs w w' B g (readS st nn (x :: r)) e := by
  by_cases hl : r = [] ∧ byteAt x (x.size - 1) = 58
  · obtain ⟨rfl, h58⟩ := hl
    exact refLab_any g B st vb vj vl (nn : Int) b off cap x nn w h hG.sz hG.le hn (hws 0 x rfl).cell (hsz x List.mem_cons_self) h58
  · exact refIns_any g B st vb vj vl nn b off cap x r w h hG hjl hnn hws hsz hlen hcap hl
theorem linG_w (s : ByteArray) : bwW ((linF [] s.data.toList).map wrdL) = (linG s).map wdsL := by
  unfold bwW linG
  rw [List.map_map, List.map_map]
  apply List.map_congr_left
  intro l _
  show List.map bw (wrdL l) = wdsL (bw l)
  rw [wds_eq, bw_data]
theorem linF_size : ∀ (r cur : List UInt8), ∀ x ∈ linF cur r, x.length ≤ cur.length + r.length
  | [], cur, x, hx => by
    rw [linF] at hx
    split at hx
    · cases hx
    · rw [List.mem_singleton] at hx; rw [hx]; simp
  | c :: r, cur, x, hx => by
    rw [linF] at hx
    split at hx
    · rcases List.mem_cons.1 hx with hx | hx
      · rw [hx]; simp
      · have := linF_size r [] x hx; simp at this ⊢; omega
    · have := linF_size r (cur ++ [c]) x hx; simp at this ⊢; omega
theorem linG_size (s : ByteArray) : ∀ x ∈ linG s, x.size ≤ s.size := by
  intro x hx
  unfold linG at hx
  obtain ⟨l, hl, rfl⟩ := List.mem_map.1 hx
  have := linF_size _ _ l hl
  rw [bw_size, ← ba_size]
  simpa using this
theorem linG_len (s : ByteArray) : (linG s).length ≤ s.size + 1 := by
  unfold linG
  rw [List.length_map]
  have := linF_len s.data.toList []
  rw [ba_size] at this
  exact this
/-- A row of texts of one's own, its texts in their block. -/
theorem OwnS.str {w : World} {B : Nat} {v : Value} {N : List ByteArray} (h : OwnS w B v N) (hn : N ≠ []) : ∃ g cap, v = .slice (some ⟨g, 0, none⟩) N.length cap ∧ N.length ≤ cap ∧ WsB w g 0 N := by
  rcases h.2 with ⟨_, h2⟩ | ⟨g, cap, cur, rfl, hb, hh, hc1, hc2, hsz, ht⟩
  · exact absurd (List.eq_nil_of_length_eq_zero h2) hn
  · refine ⟨g, cap, rfl, hc1, fun i x hx => ⟨cur, (0, 0), hh, ?_⟩⟩
    have hi := (List.getElem?_eq_some_iff.1 hx).1
    have h2 := (own_set h (i := i) (by omega) (.int .i64 0)).2.1
    rw [List.getElem?_map, hx] at h2
    rw [cell_of_row _ _ _ _ _ _ hh] at h2
    rw [Nat.zero_add]
    exact h2
/-- A jump that is led, in the bytes. -/
theorem led_bytes {l0 l : List Ix} {j : Nat} {x : Ix} {a : Int} (ha : ∀ m, adr l m = adr l0 m) (hx : l[j]? = some x) (hj : jmpN x.op = true) (he : eE x.op x.a x.b = 0) (h0 : 0 ≤ a) (h1 : a ≤ 65535) :
    encs (setA l j a) = ((encs l).set (adr l0 j + 1) (byI a 1)).set (adr l0 j + 2) (byI a 0) ∧ adr l0 j + 3 ≤ (encs l).length ∧ (∀ m, adr (setA l j a) m = adr l0 m) := by
  have h2 := encs_set l j x a hx hj he h0 h1
  rw [ha j] at h2
  exact ⟨h2.1, h2.2, fun m => (adr_set l j m a x hx hj he h0 h1).trans (ha m)⟩
theorem rj_same (l l0 : List Ix) (J : List Jm) (ha : ∀ m, adr l m = adr l0 m) : rjVals l J = rjVals l0 J := by
  unfold rjVals
  congr 1
  funext j
  unfold rjCells
  rw [ha]
theorem bvals_set (L : List UInt8) (i : Nat) (c : UInt8) : bvals (L.set i c) = (bvals L).set i (.int .u8 (c.toNat : Int)) := by unfold bvals; rw [List.map_set]
theorem OwnRj.at {w : World} {B : Nat} {ja : Option Addr} {jc : Nat} {l : List Ix} {J : List Jm} (h : OwnRj w B (.slice ja J.length jc) l J) {k : Nat} {j : Jm} (hj : J[k]? = some j) : ∃ g, ja = some ⟨g, 0, none⟩ ∧ w.cell? ⟨g, k * 3, none⟩ = some (.int .i64 (j.line : Int)) ∧ w.cell? ⟨g, k * 3 + 1, none⟩ = some (.int .i64 (adr l j.place : Int)) ∧ w.cell? ⟨g, k * 3 + 2, none⟩ = some (.string j.name) := by
  have hk : k < J.length := (List.getElem?_eq_some_iff.1 hj).1
  obtain ⟨g, rfl⟩ : ∃ g, ja = some ⟨g, 0, none⟩ := by
    rcases h.2 with ⟨_, h2⟩ | ⟨g', cap', cur, hv, _⟩
    · omega
    · injection hv with hv; exact ⟨g', hv⟩
  have hx : ∀ (J : List Jm) (k : Nat) (j : Jm), J[k]? = some j → (rjVals l J)[k * 3]? = some (.int .i64 (j.line : Int)) ∧ (rjVals l J)[k * 3 + 1]? = some (.int .i64 (adr l j.place : Int)) ∧ (rjVals l J)[k * 3 + 2]? = some (.string j.name) := by
    intro J
    induction J with
    | nil => intro k j h; simp at h
    | cons y t ih =>
      intro k j h
      cases k with
      | zero =>
        have e : y = j := by simpa using h
        subst e
        exact ⟨rfl, rfl, rfl⟩
      | succ k =>
        obtain ⟨h1, h2, h3⟩ := ih k j (by simpa using h)
        have e : rjVals l (y :: t) = rjCells l y ++ rjVals l t := by simp [rjVals]
        rw [e]
        refine ⟨?_, ?_, ?_⟩
        · rw [List.getElem?_append_right (by simp [rjCells]; omega), ← h1]; congr 1; simp [rjCells]; omega
        · rw [List.getElem?_append_right (by simp [rjCells]; omega), ← h2]; congr 1; simp [rjCells]; omega
        · rw [List.getElem?_append_right (by simp [rjCells]; omega), ← h3]; congr 1; simp [rjCells]; omega
  obtain ⟨h1, h2, h3⟩ := hx J k j hj
  have hs := fun i (hi : i < J.length * 3) => (own_set h (i := i) hi (.int .i64 0)).2.1
  exact ⟨g, rfl, (hs _ (by omega)).trans h1, (hs _ (by omega)).trans h2, (hs _ (by omega)).trans h3⟩
end Go.Proofs.YthdgbdjagjagpaaGreatDoor

/-
  The document's Parse against the plain reading. Conditions: the text fits.
-/
namespace Go.Proofs.YthdgbdjagjagpaaGreatDoor
open Go.RowKit
set_option maxRecDepth 20000
set_option linter.unusedVariables false
set_option linter.unusedSimpArgs false

theorem parS_linG {s : ByteArray} (h : ¬ 65536 < s.size) : parS s = finG (goS ((linG s).map wdsL) 1 rs0) := by rw [parS_lin h, linG_w]
theorem parG_bad {s : ByteArray} {i : Nat} {e : Int} {st : Rs} (h : ¬ 65536 < s.size) (hg : goS ((linG s).map wdsL) 1 rs0 = (i, e, st)) (he : e ≠ 0) : parS s = ([], i, e) := by rw [parS_linG h, hg, finG_bad he]
theorem parG_lead {s : ByteArray} {i ln : Nat} {e : Int} {st : Rs} {l : List Ix} (h : ¬ 65536 < s.size) (hg : goS ((linG s).map wdsL) 1 rs0 = (i, 0, st)) (hl : leadS st.labs st.size st.jumps st.list = (ln, e, l)) (he : e ≠ 0) : parS s = ([], ln, e) := by rw [parS_linG h, hg, finG_ok, hl, finL_bad he]
theorem parG_all {s : ByteArray} {i ln : Nat} {st : Rs} {l : List Ix} (h : ¬ 65536 < s.size) (hg : goS ((linG s).map wdsL) 1 rs0 = (i, 0, st)) (hl : leadS st.labs st.size st.jumps st.list = (ln, 0, l)) : parS s = alD l 0 [] := by rw [parS_linG h, hg, finG_ok, hl, finL_ok]
set_option maxHeartbeats 16000000 in
theorem refParse_any (s : ByteArray) (w : World) (hs : s.size ≤ 140737488355328) :
    Calls Tryz.prog 8 #[.string s] w fun e w' => ParP w w' s e := by
  by_cases hlong : 65536 < s.size
  · have j1 : (s.size : Int) > 65536 := by omega
    have hp := parS_long hlong
    clear hlong
    go_enter Tryz.func8, Tryz.ntmps8
    go_wp2
    go_ret3
    exact parP_nil hp (Below.refl _ _)
  · have j1 : ¬ (s.size : Int) > 65536 := by omega
    have HSH := hide hlong
    have hsz : s.size ≤ 65536 := by omega
    have HLI := hide (fun W => refLines_any s W (by omega))
    have al : Below w.heap.size w (w.alloc (.cells #[.slice none 0 0, .slice none 0 0, .slice none 0 0] 58)) := (Below.refl _ _).alloc (Nat.le_refl _) _
    have HX1 : Hid (RfW (w.alloc (.cells #[.slice none 0 0, .slice none 0 0, .slice none 0 0] 58)) w.heap.size w.heap.size rs0 (.slice none 0 0) (.slice none 0 0) (.slice none 0 0)) := hide ⟨heap_alloc_new w _, World.ownsRow_nil _ _ _ _, World.ownsRow_nil _ _ _ _, World.ownsRow_nil _ _ _ _, Nat.le_refl _⟩
    have HB1 := hide al
    clear al hs hlong
    go_enter Tryz.func8, Tryz.ntmps8
    go_upto_region 4 with fail
    obtain ⟨B, HBE⟩ : ∃ B, Hid (w.heap.size = B) := ⟨_, hide rfl⟩
    generalize (w.alloc (.cells #[.slice none 0 0, .slice none 0 0, .slice none 0 0] 58)) = w1 at HX1 HB1 ⊢
    have HX1 : Hid (RfW w1 B w.heap.size rs0 (.slice none 0 0) (.slice none 0 0) (.slice none 0 0)) := hide (by have := unhide HX1; rw [unhide HBE] at this ⊢; exact this)
    obtain ⟨g, HGE⟩ : ∃ g, Hid (w.heap.size = g) := ⟨_, hide rfl⟩
    rw [unhide HGE] at HX1 ⊢
    go_wp2_with fail
    refine (unhide HLI w1).mono ?_
    rintro e w2 ⟨v, rfl, hO, hb2⟩
    obtain ⟨la, lc, rfl⟩ := OwnS.slice hO
    have HO2 : Hid (OwnS w2 B (.slice la (linG s).length lc) (linG s)) := hide (by
      have h0 := (unhide HX1).size_le
      refine ⟨hO.1, ?_⟩
      rcases hO.2 with h1 | ⟨gg, cap, cur, hv, hbg, r⟩
      · exact Or.inl h1
      · exact Or.inr ⟨gg, cap, cur, hv, by omega, r⟩)
    have HX2 := hide ((unhide HX1).below hb2)
    have HB2 := hide ((unhide HB1).trans (hb2.mono (unhide HB1).size))
    have HLZ := hide (linG_size s)
    have hNle := linG_len s
    obtain ⟨N, HN⟩ : ∃ N, Hid ((linG s).length = N) := ⟨_, hide rfl⟩
    rw [unhide HN] at HO2 hNle ⊢
    have HGO0 : Hid (goS ((linG s).map wdsL) 1 rs0 = goS (((linG s).map wdsL).drop 0) (0 + 1) rs0) := hide rfl
    clear hO hb2 HX1 HB1 HLI
    go_wp2
    go_loopw [21] (fun i wr => ∃ (k : Nat) (st : Rs) (vb vj vl : Value), k ≤ N ∧ i = .int .i64 (k : Int) ∧ Hid (RfW wr B g st vb vj vl) ∧ Hid (GdS st) ∧ Hid (labBd st) ∧ Hid (Bnd st k) ∧ Hid (goS ((linG s).map wdsL) 1 rs0 = goS (((linG s).map wdsL).drop k) (k + 1) st) ∧ Hid (Below w.heap.size w wr) ∧ Hid (OwnS wr B (.slice la N lc) (linG s))) (fun i _ => N - (intOf i).toNat)
    case atStart => exact ⟨0, rs0, _, _, _, by omega, rfl, HX2, hide gdS_nil, hide (fun x hx => by cases hx), hide ⟨Nat.le_refl _, Nat.le_refl _, fun x hx => by cases hx⟩, HGO0, HB2, HO2⟩
    case round =>
      clear HX2 HGO0 HB2 HO2
      obtain ⟨k, st, vb, vj, vl, hk, rfl, HX, HGD, HLB, HBN, HGO, HB, HO⟩ := hrel
      by_cases hlt : k < N
      · have j2 : ((k : Nat) : Int) < ((N : Nat) : Int) := by omega
        have hkl : k < (linG s).length := by rw [unhide HN]; exact hlt
        have hx := List.getElem?_eq_getElem hkl
        have hxz := unhide HLZ _ (List.getElem_mem hkl)
        generalize (linG s)[k] = x at hx hxz
        have hOs : OwnS wr B (.slice la (linG s).length lc) (linG s) := by rw [unhide HN]; exact unhide HO
        obtain ⟨lb, lc', hle, _, hWS⟩ := OwnS.str hOs (fun e => by rw [e] at hx; simp at hx)
        obtain rfl : la = some ⟨lb, 0, none⟩ := by injection hle
        clear hle
        have d0 := (hWS k x hx).cell
        rw [Nat.zero_add] at d0
        have hws : ((linG s).map wdsL)[k]? = some (wdsL x) := by rw [List.getElem?_map, hx]; rfl
        have HWS := hide hws
        have HWO := hide (refWords_any x wr (by omega))
        have hwz := wds_size x
        have hwn := wds_ne x
        have hwl := wds_len x
        obtain ⟨ws, HWE⟩ : ∃ ws, Hid (wdsL x = ws) := ⟨_, hide rfl⟩
        rw [unhide HWE] at hwz hwn hwl HWS HWO
        have HSZ : Hid (∀ y ∈ ws, 1 ≤ y.size ∧ y.size ≤ 1048576) := hide (fun y hy => ⟨hwn y hy, by have := hwz y hy; omega⟩)
        have HWL : Hid (ws.length ≤ 1048577) := hide (by omega)
        clear hx hws hwz hwn hwl hkl hOs hWS hxz
        go_wp2_with fail
        refine (unhide HWO).mono ?_
        rintro e w3 ⟨v, rfl, how, hb3⟩
        have HX3 := hide ((unhide HX).below hb3)
        have HB3 := hide ((unhide HB).trans (hb3.mono (unhide HB).size))
        have HO3 := hide (OwnS.belowS (unhide HO) hb3)
        have HK := hide HX3
        cases ws with
        | nil =>
          obtain ⟨ao, cap, rfl⟩ := OwnS.slice how
          have HGO5 : Hid (goS ((linG s).map wdsL) 1 rs0 = goS (((linG s).map wdsL).drop (k + 1)) (k + 1 + 1) st) := hide (by rw [unhide HGO]; exact goS_good (unhide HWS) rfl)
          have HBN2 : Hid (Bnd st (k + 1)) := hide (by have h := unhide HBN; exact ⟨by have := h.j; omega, by have := h.l; omega, h.n⟩)
          clear how hb3 HWO HX HB HO HK HGO HBN
          go_wp2
          go_roundw
          case rel => exact ⟨k + 1, st, vb, vj, vl, by omega, by go_num, HX3, HGD, HLB, HBN2, HGO5, HB3, HO3⟩
          case measure => simp [intOf]; omega
        | cons x0 r =>
          obtain ⟨b, cap, rfl, hcap, hwb⟩ := OwnS.str how (by simp)
          have hbn := unhide HBN
          have HRR := hide (refLine_any g B st vb vj vl (k + 1) b 0 cap x0 r w3 (unhide HX3) (unhide HGD) (by have := hbn.l; omega) (by have := hbn.j; omega) (by omega) hwb (unhide HSZ) (unhide HWL) hcap)
          have HBN2 := hide (hbn.read (i := k + 1) (ws := x0 :: r) (by omega))
          have hbs := (unhide HX3).size_le
          clear how hb3 HWO hbn hwb HX HB HO HK hcap
          have HRR : Hid (Calls Tryz.prog 23 #[.pointer (some ⟨g, 0, none⟩), .int .i64 ((k : Int) + 1), .slice (some ⟨b, 0, none⟩) (x0 :: r).length cap] w3 fun e w' => RfIs w3 w' B g (readS st (k + 1) (x0 :: r)) e) := hide (by have := unhide HRR; rw [Int.natCast_add] at this; exact this)
          obtain ⟨m, HML⟩ : ∃ m, Hid ((x0 :: r).length = m) := ⟨_, hide rfl⟩
          have hm0 : ¬ m = 0 := by rw [← unhide HML]; simp
          have t8 : (((m : Nat) : Int) == 0) = false := beq_f (by omega)
          rw [unhide HML] at HRR ⊢
          clear hm0
          go_wp2_with fail
          refine (unhide HRR).mono ?_
          rintro e w4 ⟨rfl, hk4, hr4⟩
          have HB4 : Hid (Below w.heap.size w w4) := hide ((unhide HB3).trans (by rw [unhide HBE]; exact hk4.bel))
          have HO4 : Hid (OwnS w4 B (.slice (some ⟨lb, 0, none⟩) N lc) (linG s)) := hide (own_kq (unhide HO3) hk4 (by simp) (by decide))
          have HR4 := hide hr4
          clear hk4 hr4 HRR HX3 HB3 HO3
          by_cases he : (readS st (k + 1) (x0 :: r)).1 = 0
          · have t0 : ((readS st (k + 1) (x0 :: r)).1 != 0) = false := bne_f he
            obtain ⟨vb2, vj2, vl2, hrd2⟩ := unhide HR4 he
            have HX5 := hide hrd2
            have HGD5 := hide ((unhide HGD).read he)
            have HLB5 := hide ((unhide HLB).read (i := k + 1) (ws := x0 :: r))
            have HGO5 : Hid (goS ((linG s).map wdsL) 1 rs0 = goS (((linG s).map wdsL).drop (k + 1)) (k + 1 + 1) (readS st (k + 1) (x0 :: r)).2) := hide (by rw [unhide HGO]; exact goS_good (unhide HWS) he)
            clear he hrd2 HR4
            go_wp2
            go_roundw
            case rel => exact ⟨k + 1, _, _, _, _, by omega, by go_num, HX5, HGD5, HLB5, HBN2, HGO5, HB4, HO4⟩
            case measure => simp [intOf]; omega
          · have t0 : ((readS st (k + 1) (x0 :: r)).1 != 0) = true := bne_t he
            have hp : parS s = ([], k + 1, (readS st (k + 1) (x0 :: r)).1) := parG_bad (unhide HSH) (by rw [unhide HGO]; exact goS_bad (unhide HWS) he) he
            have HP := hide hp
            clear he hp HR4
            go_wp2
            go_ret3
            have := parP_nil (unhide HP) (unhide HB4)
            rw [Int.natCast_add] at this
            exact this
      · obtain rfl : k = N := by omega
        have hgo : goS ((linG s).map wdsL) 1 rs0 = (0, 0, st) := by
          rw [unhide HGO, List.drop_eq_nil_of_le (by rw [List.length_map, unhide HN]; exact Nat.le_refl _)]
          rfl
        have HGOE := hide hgo
        have hgd := unhide HGD
        have hbn := unhide HBN
        have HBD := hide (fun j hj => hbn.n j hj)
        obtain ⟨ja, jc, rfl⟩ := OwnRj.slice (unhide HX).jmp
        obtain ⟨va, vc, rfl⟩ := OwnRl.slice (unhide HX).lab
        have c1 := (unhide HX).box.c 1 (v := .slice ja st.jumps.length jc) rfl
        have hJ : st.jumps.length ≤ 100000 := by have := hbn.j; omega
        have HL : Hid (st.labs.length ≤ 1000000) := hide (by have := hbn.l; omega)
        have HL0 : Hid (leadS st.labs st.size st.jumps st.list = leadS st.labs st.size (st.jumps.drop 0) st.list) := hide rfl
        have HPL := hide hgd.jmp
        have HOK := hide hgd.ok
        have HZE := hide hgd.sz
        have HZL := hide hgd.le
        clear hgo hgd hbn HGO HO hlt
        go_wp2
        go_loopw [47] (fun i wq => ∃ (k2 : Nat) (l : List Ix) (vb2 : Value), k2 ≤ st.jumps.length ∧ i = .int .i64 (k2 : Int) ∧ Hid (RfW wq B g { st with list := l } vb2 (.slice ja st.jumps.length jc) (.slice va st.labs.length vc)) ∧ Hid (∀ m, adr l m = adr st.list m) ∧ Hid ((encs l).length = (encs st.list).length) ∧ Hid (∀ j ∈ st.jumps, ∃ x, l[j.place]? = some x ∧ jmpN x.op = true) ∧ Hid (∀ x ∈ l, eE x.op x.a x.b = 0) ∧ Hid (leadS st.labs st.size st.jumps st.list = leadS st.labs st.size (st.jumps.drop k2) l) ∧ Hid (Below w.heap.size w wq)) (fun i _ => st.jumps.length - (intOf i).toNat)
        case atStart => exact ⟨0, st.list, _, by omega, rfl, HX, hide (fun _ => rfl), hide rfl, HPL, HOK, HL0, HB⟩
        case round =>
          clear HX HPL HOK HL0 HB c1
          obtain ⟨k2, l, vb2, hk2, rfl, HX, HAD, HEL, HPL, HOK, HLD, HB⟩ := hrel
          by_cases hlt2 : k2 < st.jumps.length
          · have j3 : ((k2 : Nat) : Int) < ((st.jumps.length : Nat) : Int) := by omega
            have hx := List.getElem?_eq_getElem hlt2
            generalize st.jumps[k2] = jm at hx
            have HJX := hide hx
            have hjb := unhide HBD jm (List.mem_of_getElem? hx)
            obtain ⟨x0, hx0, hj0⟩ := unhide HPL jm (List.mem_of_getElem? hx)
            obtain ⟨jb, rfl, q0, q1, q2⟩ := OwnRj.at (unhide HX).jmp hx
            obtain ⟨oa, oc, rfl⟩ := OwnB.slice (unhide HX).bts
            obtain ⟨ln, pl, nm⟩ := jm
            simp only [] at hjb hx0 q0 q1 q2
            have HX0 := hide hx0
            have HJ0 := hide hj0
            obtain ⟨ad, HADE⟩ : ∃ ad, Hid (adr l pl = ad) := ⟨_, hide rfl⟩
            rw [unhide HADE] at q1
            have alj : Below wr.heap.size wr (wr.alloc (.cells #[.int .i64 (ln : Int), .int .i64 (ad : Int), .string nm] 60)) := (Below.refl _ _).alloc (Nat.le_refl _) _
            have I1 : Hid (Bx (wr.alloc (.cells #[.int .i64 (ln : Int), .int .i64 (ad : Int), .string nm] 60)) wr.heap.size 60 #[.int .i64 (ln : Int), .int .i64 (ad : Int), .string nm]) := hide (heap_alloc_new wr _)
            have HX1 := hide ((unhide HX).below alj)
            have HB1 := hide ((unhide HB).trans (alj.mono (unhide HB).size))
            clear hx hx0 hj0 alj HX HB
            go_upto_region 16 with fail
            generalize (wr.alloc (.cells #[.int .i64 (ln : Int), .int .i64 (ad : Int), .string nm] 60)) = w5 at I1 HX1 HB1 ⊢
            generalize wr.heap.size = gi at I1 ⊢
            clear q0 q1 q2
            have q2 := (unhide I1).c 2 (v := .string nm) rfl
            have HFD := hide (refFind_any g B _ _ va vc st.labs nm w5 (unhide HX1).box (unhide HX1).lab (unhide HX1).size_le (unhide HL))
            obtain ⟨fd, HFE⟩ : ∃ fd, Hid (fndN st.labs nm = fd) := ⟨_, hide rfl⟩
            rw [unhide HFE] at HFD
            go_wp2_with fail
            refine (unhide HFD).mono ?_
            rintro e w6 ⟨rfl, hb6⟩
            have I6 := hide ((unhide I1).below hb6)
            have HX6 := hide ((unhide HX1).below hb6)
            have HB6 := hide ((unhide HB1).trans (hb6.mono (unhide HB1).size))
            have hel := unhide HEL
            obtain ⟨L2, HL2⟩ : ∃ L2, Hid (encs l = L2) := ⟨_, hide rfl⟩
            have HBX : Hid (Bx w6 g 58 (rfC (.slice oa L2.length oc) (.slice (some ⟨jb, 0, none⟩) st.jumps.length jc) (.slice va st.labs.length vc))) := hide (by rw [← unhide HL2]; exact (unhide HX6).box)
            have c0 := (unhide HBX).c 0 (v := .slice oa L2.length oc) rfl
            have hL2 : L2.length = st.size := by rw [← unhide HL2, hel]; exact (unhide HZE).symm
            have HLS := hide hL2
            have p0 := (unhide I6).c 0 (v := .int .i64 (ln : Int)) rfl
            have p1 := (unhide I6).c 1 (v := .int .i64 (ad : Int)) rfl
            clear hb6 q2 HFD I1 HX1 HB1 hel hL2
            cases hf : findLb st.labs nm with
            | none =>
              have hfd : fd = -1 := by rw [← unhide HFE]; unfold fndN; rw [hf]
              have HLE : Hid (leadS st.labs st.size st.jumps st.list = (ln, 230, l)) := hide (by rw [unhide HLD]; exact lead_none (unhide HJX) hf)
              have hp := parG_lead (unhide HSH) (unhide HGOE) (unhide HLE) (by decide)
              have HP := hide hp
              subst hfd
              clear hp hf HLE HFE
              go_wp2
              go_region
              go_wp2
              go_ret3
              exact parP_nil (unhide HP) (by first | exact unhide HB6 | exact belowD (unhide HB6) 1)
            | some n =>
              have hfd : fd = (n : Int) := by rw [← unhide HFE]; unfold fndN; rw [hf]
              have hnb : n ≤ st.size := by obtain ⟨y, hy, e⟩ := findLb_mem hf; rw [← e]; exact unhide HLB y hy
              subst hfd
              have i1 : ¬ ((n : Nat) : Int) < 0 := by omega
              by_cases hn : n = st.size
              · have i2 : ((n : Nat) : Int) ≥ ((L2.length : Nat) : Int) := by rw [unhide HLS]; omega
                have HLE : Hid (leadS st.labs st.size st.jumps st.list = (ln, 230, l)) := hide (by rw [unhide HLD]; exact lead_end (unhide HJX) hf hn)
                have hp := parG_lead (unhide HSH) (unhide HGOE) (unhide HLE) (by decide)
                have HP := hide hp
                clear hp hf HLE HFE hn hnb
                go_wp2
                go_region
                go_wp2
                go_ret3
                exact parP_nil (unhide HP) (by first | exact unhide HB6 | exact belowD (unhide HB6) 1)
              · have i2 : ¬ ((n : Nat) : Int) ≥ ((L2.length : Nat) : Int) := by rw [unhide HLS]; omega
                have HLE : Hid (leadS st.labs st.size st.jumps st.list = leadS st.labs st.size (st.jumps.drop (k2 + 1)) (setA l pl (n : Int))) := hide (by rw [unhide HLD]; exact lead_step (unhide HJX) hf hn)
                have n0 : (0 : Int) ≤ (n : Int) := by omega
                have hzl := unhide HZL
                have n1 : (n : Int) ≤ 65535 := by omega
                have hx0e := unhide HOK x0 (List.mem_of_getElem? (unhide HX0))
                have hap : adr st.list pl = ad := by rw [← unhide HAD pl]; exact unhide HADE
                obtain ⟨e1, e2, e3⟩ := led_bytes (l0 := st.list) (unhide HAD) (unhide HX0) (unhide HJ0) hx0e n0 n1
                rw [hap, unhide HL2] at e1 e2
                have HE1 := hide e1
                have HE3 := hide e3
                have HOK2 := hide (setA_ok (unhide HOK) (unhide HX0) (unhide HJ0) n0 n1)
                have HPL2 : Hid (∀ j ∈ st.jumps, ∃ x, (setA l pl (n : Int))[j.place]? = some x ∧ jmpN x.op = true) := hide (fun j hj => by
                  obtain ⟨y, h1, h2⟩ := unhide HPL j hj
                  rw [setA_get]
                  split
                  · exact ⟨{ y with a := (n : Int) }, by rw [h1]; rfl, h2⟩
                  · exact ⟨y, h1, h2⟩)
                obtain ⟨gb, HGB⟩ : ∃ gb, Hid (oa = some ⟨gb, 0, none⟩) := by
                  rcases (unhide HX6).bts.2 with ⟨h1, h2⟩ | ⟨gb, cap, cur, hv, _⟩
                  · rw [unhide HL2] at h2; omega
                  · injection hv with h1; exact ⟨gb, hide h1⟩
                obtain rfl := unhide HGB
                have HE2 := hide e2
                have g3 : IntKind.u8.wrap ((n : Int) / 256) = (n : Int) / 256 % 256 := by rw [IntKind.wrap_u8]
                have g4 : IntKind.u8.wrap (n : Int) = (n : Int) % 256 := by rw [IntKind.wrap_u8]
                have had : ad ≤ 4093 := by have := unhide HLS; omega
                have g1 : IntKind.i64.wrap ((ad : Int) + 1) = (ad : Int) + 1 := by rw [IntKind.wrap_i64]; omega
                have g2 : IntKind.i64.wrap ((ad : Int) + 2) = (ad : Int) + 2 := by rw [IntKind.wrap_i64]; omega
                have HN0 := hide n1
                clear e1 e2 e3 hx0e hap hzl hf hn hnb HFE HGB HLD HOK HPL HX0 HJ0 HADE n0 n1 HEL
                go_upto_region 19 with fail
                have hR0 := HBX
                have HD : Hid (Below w6.heap.size w6 w6.drew) := hide (belowD (Below.refl _ _) 1)
                have HRd := hide ((unhide HBX).below (unhide HD))
                have HId := hide ((unhide I6).below (unhide HD))
                have HXd := hide ((unhide HX6).below (unhide HD))
                have HBd := hide ((unhide HB6).trans ((unhide HD).mono (unhide HB6).size))
                have hS0 : w6.drew.cell? ⟨g, 0, none⟩ = some (.slice (some ⟨gb, 0, none⟩) L2.length oc) ∧ w6.drew.cell? ⟨gi, 1, none⟩ = some (.int .i64 (ad : Int)) := ⟨(unhide HRd).c 0 rfl, (unhide HId).c 1 rfl⟩
                refine wp_region_held_drew (S := fun w' => w'.cell? ⟨g, 0, none⟩ = some (.slice (some ⟨gb, 0, none⟩) L2.length oc) ∧ w'.cell? ⟨gi, 1, none⟩ = some (.int .i64 (ad : Int))) (by kernel_rfl) hS0 (fun hS => ?_)
                clear hS0 hR0 HBX I6 HX6 HB6 HD c0 p0 p1
                generalize w6.drew = Wd at hS HRd HId HXd HBd ⊢
                have hal := unhide HE2
                refine wpAnyH_take (i := 0) (v := .pointer (some ⟨g, 0, none⟩)) rfl (by kernel_rfl) (by kernel_rfl) (by kernel_rfl) (fun _ _ _ h => h) (Or.inl ⟨by rfl, fun w hw => by obtain ⟨hw1, hw2⟩ := hw; go_simp <;> first | exact g1 | exact g2 | exact g3 | exact g4 | exact fun hh => absurd (hh (by omega)) (by omega)⟩) hS ?_
                refine wpAnyH_take (i := 1) (v := .pointer (some ⟨g, 0, none⟩)) rfl (by kernel_rfl) (by kernel_rfl) (by kernel_rfl) (fun _ _ _ h => h) (Or.inl ⟨by rfl, fun w hw => by obtain ⟨hw1, hw2⟩ := hw; go_simp <;> first | exact g1 | exact g2 | exact g3 | exact g4 | exact fun hh => absurd (hh (by omega)) (by omega)⟩) hS ?_
                go_simp
                refine wpAnyH_take (i := 2) (v := .pointer (some ⟨g, 0, none⟩)) rfl (by kernel_rfl) (by kernel_rfl) (by kernel_rfl) (fun _ _ _ h => h) (Or.inl ⟨by rfl, fun w hw => by obtain ⟨hw1, hw2⟩ := hw; go_simp <;> first | exact g1 | exact g2 | exact g3 | exact g4 | exact fun hh => absurd (hh (by omega)) (by omega)⟩) hS ?_
                refine wpAnyH_take (i := 3) (v := .slice (some ⟨gb, 0, none⟩) L2.length oc) rfl (by kernel_rfl) (by kernel_rfl) (by kernel_rfl) (fun _ _ _ h => h) (Or.inl ⟨by rfl, fun w hw => by obtain ⟨hw1, hw2⟩ := hw; go_simp <;> first | exact g1 | exact g2 | exact g3 | exact g4 | exact fun hh => absurd (hh (by omega)) (by omega)⟩) hS ?_
                go_simp
                refine wpAnyH_take (i := 4) (v := .pointer (some ⟨gi, 1, none⟩)) rfl (by kernel_rfl) (by kernel_rfl) (by kernel_rfl) (fun _ _ _ h => h) (Or.inl ⟨by rfl, fun w hw => by obtain ⟨hw1, hw2⟩ := hw; go_simp <;> first | exact g1 | exact g2 | exact g3 | exact g4 | exact fun hh => absurd (hh (by omega)) (by omega)⟩) hS ?_
                refine wpAnyH_take (i := 5) (v := .int .i64 (ad : Int)) rfl (by kernel_rfl) (by kernel_rfl) (by kernel_rfl) (fun _ _ _ h => h) (Or.inl ⟨by rfl, fun w hw => by obtain ⟨hw1, hw2⟩ := hw; go_simp <;> first | exact g1 | exact g2 | exact g3 | exact g4 | exact fun hh => absurd (hh (by omega)) (by omega)⟩) hS ?_
                go_simp
                refine wpAnyH_take (i := 6) (v := .int .i64 ((ad : Int) + 1)) rfl (by kernel_rfl) (by kernel_rfl) (by kernel_rfl) (fun _ _ _ h => h) (Or.inl ⟨by rfl, fun w hw => by obtain ⟨hw1, hw2⟩ := hw; go_simp <;> first | exact g1 | exact g2 | exact g3 | exact g4 | exact fun hh => absurd (hh (by omega)) (by omega)⟩) hS ?_
                refine wpAnyH_take (i := 7) (v := .pointer (some ⟨g, 0, none⟩)) rfl (by kernel_rfl) (by kernel_rfl) (by kernel_rfl) (fun _ _ _ h => h) (Or.inl ⟨by rfl, fun w hw => by obtain ⟨hw1, hw2⟩ := hw; go_simp <;> first | exact g1 | exact g2 | exact g3 | exact g4 | exact fun hh => absurd (hh (by omega)) (by omega)⟩) hS ?_
                go_simp
                refine wpAnyH_take (i := 8) (v := .pointer (some ⟨g, 0, none⟩)) rfl (by kernel_rfl) (by kernel_rfl) (by kernel_rfl) (fun _ _ _ h => h) (Or.inl ⟨by rfl, fun w hw => by obtain ⟨hw1, hw2⟩ := hw; go_simp <;> first | exact g1 | exact g2 | exact g3 | exact g4 | exact fun hh => absurd (hh (by omega)) (by omega)⟩) hS ?_
                refine wpAnyH_take (i := 9) (v := .pointer (some ⟨g, 0, none⟩)) rfl (by kernel_rfl) (by kernel_rfl) (by kernel_rfl) (fun _ _ _ h => h) (Or.inl ⟨by rfl, fun w hw => by obtain ⟨hw1, hw2⟩ := hw; go_simp <;> first | exact g1 | exact g2 | exact g3 | exact g4 | exact fun hh => absurd (hh (by omega)) (by omega)⟩) hS ?_
                go_simp
                refine wpAnyH_take (i := 10) (v := .slice (some ⟨gb, 0, none⟩) L2.length oc) rfl (by kernel_rfl) (by kernel_rfl) (by kernel_rfl) (fun _ _ _ h => h) (Or.inl ⟨by rfl, fun w hw => by obtain ⟨hw1, hw2⟩ := hw; go_simp <;> first | exact g1 | exact g2 | exact g3 | exact g4 | exact fun hh => absurd (hh (by omega)) (by omega)⟩) hS ?_
                refine wpAnyH_take (i := 14) (v := .int .i64 (n : Int)) rfl (by kernel_rfl) (by kernel_rfl) (by kernel_rfl) (fun _ _ _ h => h) (Or.inl ⟨by rfl, fun w hw => by obtain ⟨hw1, hw2⟩ := hw; go_simp <;> first | exact g1 | exact g2 | exact g3 | exact g4 | exact fun hh => absurd (hh (by omega)) (by omega)⟩) hS ?_
                go_simp
                refine wpAnyH_take (i := 15) (v := .int .i64 ((n : Int) / 256)) rfl (by kernel_rfl) (by kernel_rfl) (by kernel_rfl) (fun _ _ _ h => h) (Or.inl ⟨by rfl, fun w hw => by obtain ⟨hw1, hw2⟩ := hw; go_simp <;> first | exact g1 | exact g2 | exact g3 | exact g4 | exact fun hh => absurd (hh (by omega)) (by omega)⟩) hS ?_
                refine wpAnyH_take (i := 16) (v := .int .u8 ((n : Int) / 256 % 256)) rfl (by kernel_rfl) (by kernel_rfl) (by kernel_rfl) (fun _ _ _ h => h) (Or.inl ⟨by rfl, fun w hw => by obtain ⟨hw1, hw2⟩ := hw; go_simp <;> first | exact g1 | exact g2 | exact g3 | exact g4 | exact fun hh => absurd (hh (by omega)) (by omega)⟩) hS ?_
                go_simp
                refine wpAnyH_take (i := 17) (v := .int .i64 (n : Int)) rfl (by kernel_rfl) (by kernel_rfl) (by kernel_rfl) (fun _ _ _ h => h) (Or.inl ⟨by rfl, fun w hw => by obtain ⟨hw1, hw2⟩ := hw; go_simp <;> first | exact g1 | exact g2 | exact g3 | exact g4 | exact fun hh => absurd (hh (by omega)) (by omega)⟩) hS ?_
                refine wpAnyH_take (i := 18) (v := .int .u8 ((n : Int) % 256)) rfl (by kernel_rfl) (by kernel_rfl) (by kernel_rfl) (fun _ _ _ h => h) (Or.inl ⟨by rfl, fun w hw => by obtain ⟨hw1, hw2⟩ := hw; go_simp <;> first | exact g1 | exact g2 | exact g3 | exact g4 | exact fun hh => absurd (hh (by omega)) (by omega)⟩) hS ?_
                go_simp
                refine wpAnyH_take (i := 11) (v := .pointer (some ⟨gi, 1, none⟩)) rfl (by kernel_rfl) (by kernel_rfl) (by kernel_rfl) (fun _ _ _ h => h) (Or.inl ⟨by rfl, fun w hw => by obtain ⟨hw1, hw2⟩ := hw; go_simp <;> first | exact g1 | exact g2 | exact g3 | exact g4 | exact fun hh => absurd (hh (by omega)) (by omega)⟩) hS ?_
                refine wpAnyH_take (i := 12) (v := .int .i64 (ad : Int)) rfl (by kernel_rfl) (by kernel_rfl) (by kernel_rfl) (fun _ _ _ h => h) (Or.inl ⟨by rfl, fun w hw => by obtain ⟨hw1, hw2⟩ := hw; go_simp <;> first | exact g1 | exact g2 | exact g3 | exact g4 | exact fun hh => absurd (hh (by omega)) (by omega)⟩) hS ?_
                go_simp
                refine wpAnyH_take (i := 13) (v := .int .i64 ((ad : Int) + 2)) rfl (by kernel_rfl) (by kernel_rfl) (by kernel_rfl) (fun _ _ _ h => h) (Or.inl ⟨by rfl, fun w hw => by obtain ⟨hw1, hw2⟩ := hw; go_simp <;> first | exact g1 | exact g2 | exact g3 | exact g4 | exact fun hh => absurd (hh (by omega)) (by omega)⟩) hS ?_
                refine wpAnyH_take (i := 19) (v := .pointer (some ⟨gb, ad + 1, none⟩)) rfl (by kernel_rfl) (by kernel_rfl) (by kernel_rfl) (fun _ _ _ h => h) (Or.inl ⟨by rfl, fun w hw => by obtain ⟨hw1, hw2⟩ := hw; go_simp <;> first | exact g1 | exact g2 | exact g3 | exact g4 | exact fun hh => absurd (hh (by omega)) (by omega)⟩) hS ?_
                go_simp
                have hO : World.ownsRow Wd B 5 1 (.slice (some ⟨gb, 0, none⟩) L2.length oc) L2.length (bvals L2) := by have h := (unhide HXd).bts; rw [unhide HL2] at h; exact h
                have he2 := unhide HE2
                obtain ⟨s1, s2, s3, cs1, s4⟩ := own_set hO (i := ad + 1) (by omega) (.int .u8 ((n : Int) / 256 % 256))
                obtain ⟨r1, r2, r3, cs2, r4⟩ := own_set s1 (i := ad + 2) (by omega) (.int .u8 ((n : Int) % 256))
                have hgb : B ≤ gb := (own_blockA hO gb rfl).1
                have k1 : Wd.cell? ⟨gb, ad + 1, none⟩ = some (.int .u8 (at8 L2 (ad + 1))) := s2.trans (bvals_get (by omega))
                have k2c : (Wd.setCell ⟨gb, ad + 1, none⟩ (.int .u8 ((n : Int) / 256 % 256))).cell? ⟨gb, ad + 2, none⟩ = some (.int .u8 (at8 L2 (ad + 2))) := by
                  rw [r2, List.getElem?_set_ne (by omega)]
                  exact bvals_get (by omega)
                have HKA := hide (Kq.set (B := B) (ts := [5]) (gs := []) s4 hgb (by simp) (ad + 1) (.int .u8 ((n : Int) / 256 % 256)))
                have HKB := hide (Kq.set (B := B) (ts := [5]) (gs := []) r4 hgb (by simp) (ad + 2) (.int .u8 ((n : Int) % 256)))
                have HK2 := hide ((unhide HKA).trans (unhide HKB))
                have hS7 : (Wd.setCell ⟨gb, ad + 1, none⟩ (.int .u8 ((n : Int) / 256 % 256))).cell? ⟨g, 0, none⟩ = some (.slice (some ⟨gb, 0, none⟩) L2.length oc) ∧ (Wd.setCell ⟨gb, ad + 1, none⟩ (.int .u8 ((n : Int) / 256 % 256))).cell? ⟨gi, 1, none⟩ = some (.int .i64 (ad : Int)) := ⟨((unhide HRd).kq (unhide HKA) (by simp) (by decide)).c 0 rfl, ((unhide HId).kq (unhide HKA) (by simp) (by decide)).c 1 rfl⟩
                have hS8 : ((Wd.setCell ⟨gb, ad + 1, none⟩ (.int .u8 ((n : Int) / 256 % 256))).setCell ⟨gb, ad + 2, none⟩ (.int .u8 ((n : Int) % 256))).cell? ⟨g, 0, none⟩ = some (.slice (some ⟨gb, 0, none⟩) L2.length oc) ∧ ((Wd.setCell ⟨gb, ad + 1, none⟩ (.int .u8 ((n : Int) / 256 % 256))).setCell ⟨gb, ad + 2, none⟩ (.int .u8 ((n : Int) % 256))).cell? ⟨gi, 1, none⟩ = some (.int .i64 (ad : Int)) := ⟨((unhide HRd).kq (unhide HK2) (by simp) (by decide)).c 0 rfl, ((unhide HId).kq (unhide HK2) (by simp) (by decide)).c 1 rfl⟩
                have HR1 := hide r1
                clear hO s1 s2 s4 r1 r2 r4 hgb he2
                refine wpAnyH_ready (rs := [20]) (by kernel_rfl) (by simp) ?_
                refine (AllReadyH.cons rfl (fun K hK => ?_) AllReadyH.nil)
                go_simp
                refine hK.out _ _ hS7 (fun hS9 => ?_)
                clear hK K
                refine wpAnyH_take (i := 21) (v := .pointer (some ⟨gb, ad + 2, none⟩)) rfl (by kernel_rfl) (by kernel_rfl) (by kernel_rfl) (fun _ _ _ h => h) (Or.inl ⟨by rfl, fun w hw => by obtain ⟨hw1, hw2⟩ := hw; go_simp; rw [if_pos ⟨by omega, by omega⟩, show ((ad : Int) + 2).toNat = ad + 2 by omega]⟩) hS9 ?_
                refine wpAnyH_ready (rs := [22]) (by kernel_rfl) (by simp) ?_
                refine (AllReadyH.cons rfl (fun K hK => ?_) AllReadyH.nil)
                go_simp
                refine hK.out _ _ hS8 (fun hS10 => ?_)
                clear hK K
                refine wpAnyH_done (by kernel_rfl) ?_ _
                have HX8 : Hid (RfW ((Wd.setCell ⟨gb, ad + 1, none⟩ (.int .u8 ((n : Int) / 256 % 256))).setCell ⟨gb, ad + 2, none⟩ (.int .u8 ((n : Int) % 256))) B g { st with list := setA l pl (n : Int) } (.slice (some ⟨gb, 0, none⟩) L2.length oc) (.slice (some ⟨jb, 0, none⟩) st.jumps.length jc) (.slice va st.labs.length vc)) := hide (by
                  have hq := unhide HXd
                  refine ⟨(unhide HRd).kq (unhide HK2) (by simp) (by decide), ?_, ?_, own_kq hq.lab (unhide HK2) (by simp) (by decide), hq.bg⟩
                  · show OwnB _ B _ (encs (setA l pl (n : Int)))
                    rw [unhide HE1]
                    unfold OwnB
                    rw [bvals_set, bvals_set, List.length_set, List.length_set, byI_eq, byI_eq]
                    have h1 := unhide HR1
                    simpa using h1
                  · have h1 := own_kq hq.jmp (unhide HK2) (by simp) (by decide)
                    unfold OwnRj
                    show World.ownsRow _ B _ 3 _ st.jumps.length (rjVals (setA l pl (n : Int)) st.jumps)
                    rw [rj_same (setA l pl (n : Int)) l st.jumps (fun m => (unhide HE3 m).trans (unhide HAD m).symm)]
                    exact h1)
                have HEL2 : Hid ((encs (setA l pl (n : Int))).length = (encs st.list).length) := hide (by rw [unhide HE1, List.length_set, List.length_set, unhide HLS]; exact unhide HZE)
                have HB8 : Hid (Below w.heap.size w ((Wd.setCell ⟨gb, ad + 1, none⟩ (.int .u8 ((n : Int) / 256 % 256))).setCell ⟨gb, ad + 2, none⟩ (.int .u8 ((n : Int) % 256)))) := hide ((unhide HBd).trans (by rw [unhide HBE]; exact (unhide HK2).bel))
                clear hS hS7 hS8 hS9 hS10 HRd HId HXd HBd HKA HKB HK2 HR1 HE1 k1 k2c s3 r3 g1 g2 g3 g4 hal
                go_wp2_with fail
                go_roundw
                case rel => exact ⟨k2 + 1, _, _, by omega, by go_num, HX8, HE3, HEL2, HPL2, HOK2, HLE, HB8⟩
                case measure => simp [intOf]; omega
          · obtain rfl : k2 = st.jumps.length := by omega
            have hle : leadS st.labs st.size st.jumps st.list = (0, 0, l) := by rw [unhide HLD, List.drop_eq_nil_of_le (Nat.le_refl _)]; rfl
            have hp := parG_all (unhide HSH) (unhide HGOE) hle
            have hel := unhide HEL
            have hz : (encs l).length ≤ 4096 := by rw [hel, ← unhide HZE]; exact unhide HZL
            rw [alD_all l 0 [] (unhide HOK) (by simp; exact hz), List.nil_append] at hp
            have HP := hide hp
            obtain ⟨oa, oc, rfl⟩ := OwnB.slice (unhide HX).bts
            have c0 := (unhide HX).box.c 0 (v := .slice oa (encs l).length oc) rfl
            have HOB := hide (unhide HX).bts
            clear hle hp hel hz HLD HX
            go_wp2
            go_ret3
            refine ⟨_, by rw [unhide HP]; rfl, ?_, unhide HB⟩
            rw [unhide HP, unhide HBE]
            exact unhide HOB
end Go.Proofs.YthdgbdjagjagpaaGreatDoor
