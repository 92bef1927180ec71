/-
  What the laws of a module's file stand on: a fault of decoding is none that is OK; a file decoded; the file of a module by the program, told of the document. Conditions: lengths fit; both variables are laid.
-/
import Derived.Test.YtibgfdjopikafaaGreatDoorJDC
import Derived.Test.YtibgfdjopikafaaGreatDoorJWB
import Derived.Test.YtibgfdjopikafaaGreatDoorJMB
import Derived.Deep.DeepAppendWide
namespace Go.Proofs.YtibgfdjopikafaaGreatDoor
open Go.RowKit
set_option maxRecDepth 20000
set_option linter.unusedVariables false
set_option linter.unusedSimpArgs false

/-- No fault of a piece is OK. -/
def NzP {α : Type} (p : List UInt8 → Nat → PR α) : Prop := ∀ L k a e, p L k = .error (a, e) → e ≠ 0
theorem NzP.bnd {α β : Type} {p : List UInt8 → Nat → PR α} (h : NzP p) {q : α → List UInt8 → Nat → PR β} (hq : ∀ x, NzP (q x)) : NzP (fun L k => bndP (p L k) fun x k1 => q x L k1) := by
  intro L k a e hh
  have hh : bndP (p L k) (fun x k1 => q x L k1) = .error (a, e) := hh
  cases hp : p L k with
  | error er =>
    obtain ⟨a', e'⟩ := er
    rw [hp] at hh
    injection hh with hh
    injection hh with h1 h2
    subst h1 h2
    exact h L k _ _ hp
  | ok y =>
    rw [hp] at hh
    exact hq y.1 L y.2 a e hh
theorem NzP.ret {α : Type} (z : Nat → α) : NzP (fun _ k => (.ok (z k, k) : PR α)) := fun _ _ _ _ h => by cases h
theorem NzP.by : NzP byP := fun L k a e h => by
  unfold byP at h
  split at h
  · injection h with h; injection h with _ h; omega
  · cases h
theorem NzP.nm : NzP nmP := fun L k a e h => by
  unfold nmP at h
  split at h
  · cases h
  · rename_i hn
    injection h with h
    injection h with _ h
    rw [← h]
    exact hn
theorem NzP.co (most : Nat) : NzP (coP most) := fun L k a e h => by
  unfold coP at h
  cases hp : byP L k with
  | error er =>
    obtain ⟨a', e'⟩ := er
    rw [hp] at h
    injection h with h
    injection h with h1 h2
    subst h1 h2
    exact NzP.by L k _ _ hp
  | ok y =>
    rw [hp] at h
    have h : (if most < y.1 then .error (k, 4) else .ok (y.1, y.2) : PR Nat) = .error (a, e) := h
    split at h
    · injection h with h; injection h with _ h; omega
    · cases h
theorem NzP.lo : NzP loP := fun L k a e h => by
  unfold loP biP at h
  split at h
  · injection h with h; injection h with _ h; omega
  · split at h
    · injection h with h; injection h with _ h; omega
    · cases h
theorem NzP.rep {α : Type} {p : List UInt8 → Nat → PR α} (h : NzP p) : ∀ n, NzP (repP p n)
  | 0 => fun _ _ _ _ h => by cases h
  | n + 1 => h.bnd (fun x => (NzP.rep h n).bnd (q := fun xs _ k2 => .ok (x :: xs, k2)) (fun xs => NzP.ret (fun _ => x :: xs)))
theorem NzP.fd : NzP fdP := NzP.nm.bnd (q := fun s L k1 => bndP (byP L k1) fun t k2 => .ok (((s, t) : FlC), k2)) fun s => NzP.by.bnd (q := fun t _ k2 => .ok (((s, t) : FlC), k2)) fun t => NzP.ret (fun _ => ((s, t) : FlC))
theorem NzP.cl : NzP clP := NzP.nm.bnd (q := fun s L k1 => bndP (byP L k1) fun b k2 => bndP (coP 32 L k2) fun n k3 => bndP (repP fdP n L k3) fun fs k4 => .ok (((s, parI b, fs) : ClC), k4)) fun s => NzP.by.bnd (q := fun b L k2 => bndP (coP 32 L k2) fun n k3 => bndP (repP fdP n L k3) fun fs k4 => .ok (((s, parI b, fs) : ClC), k4)) fun b => (NzP.co 32).bnd (q := fun n L k3 => bndP (repP fdP n L k3) fun fs k4 => .ok (((s, parI b, fs) : ClC), k4)) fun n => (NzP.fd.rep n).bnd (q := fun fs _ k4 => .ok (((s, parI b, fs) : ClC), k4)) fun fs => NzP.ret (fun _ => ((s, parI b, fs) : ClC))
theorem NzP.fn : NzP fnP := NzP.nm.bnd (q := fun s L k1 => bndP (coP 8 L k1) fun n k2 => bndP (repP byP n L k2) fun ps k3 => bndP (byP L k3) fun rt k4 => bndP (byP L k4) fun lo k5 => bndP (loP L k5) fun cd k6 => .ok (((s, (ps, rt), (lo : Int), cd) : FnC), k6)) fun s => (NzP.co 8).bnd (q := fun n L k2 => bndP (repP byP n L k2) fun ps k3 => bndP (byP L k3) fun rt k4 => bndP (byP L k4) fun lo k5 => bndP (loP L k5) fun cd k6 => .ok (((s, (ps, rt), (lo : Int), cd) : FnC), k6)) fun n => (NzP.by.rep n).bnd (q := fun ps L k3 => bndP (byP L k3) fun rt k4 => bndP (byP L k4) fun lo k5 => bndP (loP L k5) fun cd k6 => .ok (((s, (ps, rt), (lo : Int), cd) : FnC), k6)) fun ps => NzP.by.bnd (q := fun rt L k4 => bndP (byP L k4) fun lo k5 => bndP (loP L k5) fun cd k6 => .ok (((s, (ps, rt), (lo : Int), cd) : FnC), k6)) fun rt => NzP.by.bnd (q := fun lo L k5 => bndP (loP L k5) fun cd k6 => .ok (((s, (ps, rt), (lo : Int), cd) : FnC), k6)) fun lo => NzP.lo.bnd (q := fun cd _ k6 => .ok (((s, (ps, rt), (lo : Int), cd) : FnC), k6)) fun cd => NzP.ret (fun _ => ((s, (ps, rt), (lo : Int), cd) : FnC))
theorem NzP.ct (n : Nat) : NzP (ctP n) := fun L k a e h => by
  unfold ctP at h
  cases hp : byP L k with
  | error er =>
    obtain ⟨a', e'⟩ := er
    rw [hp] at h
    injection h with h
    injection h with h1 h2
    subst h1 h2
    exact NzP.by L k _ _ hp
  | ok y =>
    rw [hp] at h
    have h : (if 1 < y.1 ∨ (y.1 = 1 ∧ n = 0) then .error (k, 162) else repP loP (if y.1 = 1 then n else 0) L y.2 : PR (List (List UInt8))) = .error (a, e) := h
    split at h
    · injection h with h; injection h with _ h; omega
    · exact (NzP.lo.rep _) L y.2 a e h
theorem NzP.md : NzP mdP := NzP.nm.bnd (q := fun s L k1 => bndP (coP 32 L k1) fun n k2 => bndP (repP clP n L k2) fun T k3 => bndP (coP 64 L k3) fun m k4 => bndP (repP fnP m L k4) fun F k5 => bndP (ctP m L k5) fun C k6 => .ok ((⟨s, T, F, C⟩ : Mc), k6)) fun s => (NzP.co 32).bnd (q := fun n L k2 => bndP (repP clP n L k2) fun T k3 => bndP (coP 64 L k3) fun m k4 => bndP (repP fnP m L k4) fun F k5 => bndP (ctP m L k5) fun C k6 => .ok ((⟨s, T, F, C⟩ : Mc), k6)) fun n => (NzP.cl.rep n).bnd (q := fun T L k3 => bndP (coP 64 L k3) fun m k4 => bndP (repP fnP m L k4) fun F k5 => bndP (ctP m L k5) fun C k6 => .ok ((⟨s, T, F, C⟩ : Mc), k6)) fun T => (NzP.co 64).bnd (q := fun m L k4 => bndP (repP fnP m L k4) fun F k5 => bndP (ctP m L k5) fun C k6 => .ok ((⟨s, T, F, C⟩ : Mc), k6)) fun m => (NzP.fn.rep m).bnd (q := fun F L k5 => bndP (ctP m L k5) fun C k6 => .ok ((⟨s, T, F, C⟩ : Mc), k6)) fun F => (NzP.ct m).bnd (q := fun C _ k6 => .ok ((⟨s, T, F, C⟩ : Mc), k6)) fun C => NzP.ret (fun _ => (⟨s, T, F, C⟩ : Mc))
theorem magR_nz (b : List UInt8) : ∀ (l : List UInt8) (i a : Nat) (e : Int), magR b l i = some (a, e) → e ≠ 0
  | [], _, _, _, h => by cases h
  | x :: l, i, a, e, h => by
    unfold magR at h
    split at h
    · injection h with h; injection h with _ h; omega
    · split at h
      · injection h with h; injection h with _ h; omega
      · exact magR_nz b l (i + 1) a e h
/-- No fault of a file is OK. -/
theorem dec_err {b : List UInt8} {a : Nat} {e : Int} (h : decD b = .error (a, e)) : e ≠ 0 := by
  unfold decD at h
  split at h
  · injection h with h; injection h with _ h; omega
  · split at h
    · rename_i he
      injection h with h
      subst h
      exact magR_nz _ _ _ _ _ he
    · split at h
      · injection h with h; injection h with _ h; omega
      · split at h
        · injection h with h; injection h with _ h; omega
        · unfold bodP at h
          split at h
          · rename_i he
            injection h with h
            subst h
            exact NzP.md _ _ _ _ he
          · split at h
            · injection h with h; injection h with _ h; omega
            · cases h
def mdZ : Md := ⟨⟨#[]⟩, none, 0, [], none, 0, [], none, 0, []⟩
theorem DecR.ok {b : List UInt8} {y : Md} {a : Nat} {e : Int} (h : DecR b y a e) (he : e = 0) : decD b = .ok (mcOf y) ∧ CkR y 0 0 ∧ a = 0 := by
  rcases h with ⟨h1, h2, h3, _⟩ | ⟨h1 | ⟨_, h1, _⟩, _⟩
  · exact ⟨h1, h2, h3⟩
  · exact absurd he (dec_err h1)
  · exact absurd he h1
theorem DecR.no {b : List UInt8} {y : Md} {a : Nat} {e : Int} (h : DecR b y a e) (he : e ≠ 0) : y = mdZ := by
  rcases h with ⟨_, _, _, h⟩ | ⟨_, h⟩
  · exact absurd h he
  · exact h
/-- A file decoded. -/
theorem dec_file {W : World} {m y : Md} {a : Nat} {e : Int} (hm : MdOk W m) (hk : CkR m 0 0) (hl : (fileB (mcOf m)).length ≤ 1048576) (h : DecR (fileB (mcOf m)) y a e) : a = 0 ∧ e = 0 ∧ SameMd m y := by
  have hv := ck_v hm (ck_good hk).1
  have hd : decD (fileB (mcOf m)) = .ok (mcOf m) := dec_iff.2 ⟨hv, rfl, hl⟩
  rcases h with ⟨h1, h2, h3, h4⟩ | ⟨h1 | ⟨_, h1, x, n, h2, h3⟩, _⟩
  · rw [hd] at h1
    injection h1 with h1
    exact ⟨h3, h4, mc_same h1.symm⟩
  · rw [hd] at h1; cases h1
  · rw [hd] at h2
    injection h2 with h2
    exact absurd (ck_one (mc_same h2.symm) h3 hk).2 h1
theorem file_13 {m : Mc} (h : McV m) : 13 ≤ (fileB m).length := by
  have h1 := h.1.len
  rw [file_len]
  unfold bodyB mdB nbL oneB ctB
  by_cases hc : m.C = []
  · rw [if_pos hc]
    simp [magB, oneB]
    omega
  · rw [if_neg hc]
    simp [magB, oneB]
    omega
/-- What the laws hold of a file. -/
def FileR (m : Md) (L : List UInt8) (is ok : Bool) : Prop := (is = false ∧ ok = true) ∨ (is = true ∧ ok = true ∧ L = fileB (mcOf m) ∧ CkR m 0 0 ∧ L.length ≤ 1048576 ∧ 13 ≤ L.length)
theorem enc_same {x y : Md} (h : SameMd x y) {L M : List UInt8} {e d : Int} (h1 : EncR y L e) (h2 : EncR x M d) : e = d ∧ L = M := by
  unfold EncR at h1 h2
  rw [same_mc h] at h1
  rcases h1 with ⟨⟨n, a1⟩, a2, a3⟩ | ⟨a1, a2, a3, a4⟩ | ⟨a1, a2, a3, a4⟩
  · rcases h2 with ⟨⟨k, b1⟩, b2, b3⟩ | ⟨b1, b2, b3, b4⟩ | ⟨b1, b2, b3, b4⟩
    · exact ⟨(ck_one h a1 b1).2, by rw [a3, b3]⟩
    · exact absurd (ck_one h a1 b1).2 a2
    · exact absurd (ck_one h a1 b1).2 a2
  · rcases h2 with ⟨⟨k, b1⟩, b2, b3⟩ | ⟨b1, b2, b3, b4⟩ | ⟨b1, b2, b3, b4⟩
    · exact absurd (ck_one h a1 b1).2.symm b2
    · exact ⟨by rw [a3, b3], by rw [a4, b4]⟩
    · omega
  · rcases h2 with ⟨⟨k, b1⟩, b2, b3⟩ | ⟨b1, b2, b3, b4⟩ | ⟨b1, b2, b3, b4⟩
    · exact absurd (ck_one h a1 b1).2.symm b2
    · omega
    · exact ⟨by rw [a3, b3], by rw [a4, b4]⟩
theorem enc_ok {m : Md} {L : List UInt8} (h : EncR m L 0) : CkR m 0 0 ∧ (fileB (mcOf m)).length ≤ 1048576 ∧ L = fileB (mcOf m) := by
  rcases h with ⟨_, h, _⟩ | ⟨_, _, h, _⟩ | ⟨h1, h2, _, h3⟩
  · exact absurd rfl h
  · exact absurd h (by decide)
  · exact ⟨h1, h2, h3⟩
theorem u64_boundsM {n : Int} (h : (Lit.int .u64 n).wf = true) : 0 ≤ n ∧ n < 18446744073709551616 := by
  have h1 : IntKind.u64.min = 0 := rfl
  have h2 : IntKind.u64.max = 18446744073709551615 := rfl
  simp [Lit.wf] at h
  omega
theorem own_capM {w : World} {B : Nat} {v : Value} {l : List UInt8} (h : OwnB w B v l) : ∃ a c, v = .slice a l.length c ∧ BAt w a l ∧ l.length ≤ c := by
  rcases h.shape with ⟨rfl, rfl⟩ | ⟨g, cap, rfl, hg1, hg2, hg3, hg4, hg5⟩
  · exact ⟨none, 0, rfl, BAt.nil _ _, by simp⟩
  · exact ⟨_, cap, rfl, hg5, hg3⟩
theorem bvals_setM (l : List UInt8) (k : Nat) (y : UInt8) : (bvals l).set k (.int .u8 (y.toNat : Int)) = bvals (l.set k y) := by
  unfold bvals
  rw [List.map_set]
theorem wrap_M {x : Int} (h0 : 0 ≤ x) (h1 : x ≤ 140737488355328) : IntKind.i64.wrap x = x := by simp [IntKind.wrap, IntKind.bits, IntKind.signed]; omega
theorem frontM {w : World} {ao : Option Addr} {l : List UInt8} (h : BAt w ao l) (k : Nat) : BAt w ao (l.take k) := fun i hi => by
  rw [List.length_take] at hi
  obtain ⟨b, o, e, hc⟩ := h i (by omega)
  refine ⟨b, o, e, ?_⟩
  rw [hc]
  unfold at8
  rw [List.getD_eq_getElem?_getD, List.getD_eq_getElem?_getD, List.getElem?_take_of_lt (by omega)]
/-- Bytes behind bytes of one's own, however many a slice holds. -/
theorem wpList_appendBM {w : World} {ops : Array Oper} {rest : List Oper} {o : Oper} {a : Act} {Q : Exit → Act → World → Prop} (hgd : o.guard = none) (s x : Operand)
    (ho : o.op = .call { callee := .builtin .append, args := #[s, x], argTypes := #[28, 28] })
    (base : Nat) (v : Value) (l : List UInt8) (hs : a.eval s = v) (hown : OwnB w base v l) (b : Value) (m : List UInt8) (hx : a.eval x = b) (hb : SrcB w b m) (hfit : l.length + m.length ≤ 211106232532992) (hbase : base ≤ w.heap.size)
    (h : ∀ v' w', OwnB w' base v' (l ++ m) → w.grownBy w' v.ownBlock → wpList Tryz.prog ops Q rest (a.put o.dst v') w') :
    wpList Tryz.prog ops Q (o :: rest) a w := by
  obtain ⟨i0, hi, hz0, hz1, hz2⟩ := info_parts info8
  rcases hb with ⟨rfl, rfl⟩ | ⟨y, c, rfl, hb⟩
  · refine wpList_append_own_none hgd s x 28 ho base 5 i0 1 Tryz.underlying28 hi v l.length (bvals l) hs hown hx ?_
    exact h v w (by rw [List.append_nil]; exact hown) (World.grownBy.refl _ _)
  · refine wpList_append_own_wide w hgd s x 28 ho base 5 i0 (.int .u8 0) 1 1 Tryz.underlying28 hi hz0 hz1 hz2 rfl (by decide) v l.length (bvals l) hs hown y m.length c (bvals m) hx (by rw [bvals_length]; omega) hb.cells (bvals_one m) (by unfold maxLen; omega) (by omega) hbase ?_
    intro v' w' h1 h2 _
    refine h v' w' ?_ h2
    unfold OwnB
    rw [List.length_append, ← bvals_append]
    exact h1
set_option maxRecDepth 20000 in
set_option maxHeartbeats 8000000 in
theorem file16_any (m : Md) (w : World) (hm : MdOk w m) (hn : ∀ x ∈ m.C, x.ca = none → x.cc = 0) (hW : WordsAt w) (hE : ErrAt w) :
    Calls Tryz.prog 18 #[.agg #[.string m.nm, .slice m.ao m.T.length m.cap, .slice m.fo m.F.length m.fc, .slice m.co m.C.length m.cc]] w fun e w' => ∃ vb L is ok, e = .returned (.tuple #[vb, .bool is, .bool ok]) ∧ OwnB w' w.heap.size vb L ∧ FileR m L is ok ∧ Below w.heap.size w w' := by
  have al := (Below.refl w.heap.size w).alloc (Nat.le_refl _) (.cells #[.string m.nm, .slice m.ao m.T.length m.cap, .slice m.fo m.F.length m.fc, .slice m.co m.C.length m.cc] 26)
  have HB := hide al
  have HC : Hid (Bx (w.alloc (.cells #[.string m.nm, .slice m.ao m.T.length m.cap, .slice m.fo m.F.length m.fc, .slice m.co m.C.length m.cc] 26)) w.heap.size 26 #[.string m.nm, .slice m.ao m.T.length m.cap, .slice m.fo m.F.length m.fc, .slice m.co m.C.length m.cc]) := hide (heap_alloc_new w _)
  have H := hide (hm.below al)
  have HWD := hide (hW.below al)
  have HED := hide (hE.below al)
  have HN := hide hn
  clear al hm hW hE hn
  go_enter Tryz.func18, Tryz.ntmps18
  go_upto_region 1 with fail
  generalize (w.alloc (.cells #[.string m.nm, .slice m.ao m.T.length m.cap, .slice m.fo m.F.length m.fc, .slice m.co m.C.length m.cc] 26)) = W1 at HB HC H HWD HED ⊢
  have k0 := (unhide HC).c 0 rfl
  have k1 := (unhide HC).c 1 rfl
  have k2 := (unhide HC).c 2 rfl
  have k3 := (unhide HC).c 3 rfl
  have HCK := hide (refEncode_any m W1 (unhide H) (unhide HN))
  go_wp2_with fail
  refine (unhide HCK).mono ?_
  rintro e W2 ⟨v1, L1, e1, rfl, ho1, h1, hb⟩
  have HB2 := hide ((unhide HB).trans (hb.mono (unhide HB).size))
  have HC2 := hide ((unhide HC).below hb)
  have H2 := hide ((unhide H).below hb)
  have HWD2 := hide ((unhide HWD).below hb)
  have HED2 := hide ((unhide HED).below hb)
  have HR1 := hide h1
  clear k0 k1 k2 k3 HCK h1 ho1 hb HB HC H HWD HED
  by_cases he : e1 = 0
  · subst he
    obtain ⟨hk, hl, rfl⟩ := enc_ok (unhide HR1)
    have HK := hide hk
    have HL := hide hl
    clear hk hl
    have k0 := (unhide HC2).c 0 rfl
    have k1 := (unhide HC2).c 1 rfl
    have k2 := (unhide HC2).c 2 rfl
    have k3 := (unhide HC2).c 3 rfl
    have HMA := hide (Module_all m W2 (unhide H2))
    go_wp2_with fail
    refine (unhide HMA).mono ?_
    rintro e W3 ⟨y, rfl, hmk, hsm, hcp, hco, hcn, hb⟩
    have HB3 := hide ((unhide HB2).trans (hb.mono (unhide HB2).size))
    have HWD3 := hide ((unhide HWD2).below hb)
    have HED3 := hide ((unhide HED2).below hb)
    have H3 := hide ((unhide H2).below hb)
    have HCK := hide (Encode16_any y W3 hmk hcp.1 hcp.2 (unhide HWD3) (unhide HED3) hcn)
    have HSM := hide hsm
    clear k0 k1 k2 k3 HMA hmk hsm hcp hco hcn hb HB2 HC2 H2 HWD2 HED2
    go_wp2_with fail
    refine (unhide HCK).mono ?_
    rintro e W4 ⟨v2, L2, e2, rfl, ho2, h2, hb⟩
    obtain ⟨rfl, rfl⟩ := enc_same (unhide HSM) h2 (unhide HR1)
    have h13 := file_13 (ck_v (unhide H3) (ck_good (unhide HK)).1)
    have HB4 := hide ((unhide HB3).trans (hb.mono (unhide HB3).size))
    have HFR : Hid (FileR m (fileB (mcOf m)) true true) := hide (Or.inr ⟨rfl, rfl, rfl, unhide HK, unhide HL, h13⟩)
    have HO2 := hide (ho2.mono (unhide HB3).size)
    obtain ⟨sa, sc, hv, -⟩ := ho2.at
    subst hv
    generalize fileB (mcOf m) = L at HFR HO2 h13 ⊢
    have i13 : ((L.length : Nat) : Int) ≥ 13 := by omega
    clear HCK h2 ho2 hb HB3 HR1 HL HK HSM HWD3 HED3 H3 h13
    go_wp2
    go_ret3
    exact ⟨_, _, _, _, rfl, unhide HO2, unhide HFR, unhide HB4⟩
  · have t0 : (e1 == 0) = false := beq_f he
    have HFR : Hid (FileR m [] false true) := hide (Or.inl ⟨rfl, rfl⟩)
    clear he HR1
    go_wp2
    go_ret3
    exact ⟨.slice none 0 0, [], false, true, rfl, World.ownsRow_nil _ _ _ _, unhide HFR, unhide HB2⟩
end Go.Proofs.YtibgfdjopikafaaGreatDoor
