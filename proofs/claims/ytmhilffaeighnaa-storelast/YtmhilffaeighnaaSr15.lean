/-
  The contract of the document's Open: what an image keeps, or that it can't be. What is answered is new memory; nothing that lay is turned.
-/
import Derived.Test.YtmhilffaeighnaaSr14
import Derived.Test.YtmhilffaeighnaaBx1
import Derived.Test.YtmhilffaeighnaaRef
import Derived.Test.YtmhilffaeighnaaApp
import Derived.Laws.ResultCell
import Derived.Deep.Cut
namespace Go.Proofs.Ytmhilffaeighnaa
open Go.RowKit
set_option maxRecDepth 20000

theorem run_addrS (g : Nat) (w : World) : (asAddr (.pointer (some ⟨g, 0, none⟩))).run Try.prog w = .ok ⟨g, 0, none⟩ w := rfl
theorem below_rowS {B : Nat} {w W : World} (h : Below B w W) {g : Nat} (hg : B ≤ g) (cs : Array Value) : Below B w (W.setRow g cs) := h.trans ⟨rfl, rfl, rfl, by simp, fun k hk => setRow_other W g k cs (by omega)⟩
theorem results_stS {fn : Func} {q u : Tmp} (h : fn.results = #[.cell q 28, .tmp u]) (tmps : Array Value) (W : World) (g : Nat) (v x0 x1 : Value) (hp : tmps.getD q undef = .pointer (some ⟨g, 0, none⟩)) (hu : tmps.getD u undef = v) (hg : Bx W g 28 #[x0, x1]) :
    (results fn tmps).run Try.prog W = .ok (.tuple #[.agg #[x0, x1], v]) W := by
  rw [results_cell_tmp h, hp, hu, run_addrS, Result.andThen_ok, run_loadVar_row W g 28 28 #[x0, x1] (0, 0) _ hg Try.underlying28 rfl (by kernel_rfl), Result.andThen_ok]
/-- The bytes of each lie there. -/
def RkOk (w : World) (L : List Rk) : Prop := ∀ x ∈ L, BAt w x.ba x.bs ∧ (x.ba = none → x.bs = [])
theorem RkOk.below {w w' : World} {L : List Rk} (h : RkOk w L) (hb : Below w.heap.size w w') : RkOk w' L := fun x hx => ⟨(h x hx).1.below' hb, (h x hx).2⟩
theorem BAt.notBx {w : World} {ao : Option Addr} {l : List UInt8} {g : Nat} {t : TypeId} {x0 x1 : Value} (h : BAt w ao l) (hg : Bx w g t #[x0, x1]) (h0 : ∀ n, x0 ≠ .int .u8 n) (h1 : ∀ n, x1 ≠ .int .u8 n) : ∀ b off, ao = some ⟨b, off, none⟩ → 0 < l.length → b ≠ g := fun b off e hl e2 => by
  subst e2
  obtain ⟨b', off', e', hc⟩ := h 0 hl
  rw [e] at e'
  injection e' with e'
  injection e' with e1 e2
  subst e1 e2
  rw [cell_of_row _ _ _ _ _ _ hg] at hc
  rcases (show off + 0 = 0 ∨ off + 0 = 1 ∨ 2 ≤ off + 0 by omega) with e | e | e
  · rw [e] at hc; injection hc with hc; exact h0 _ hc
  · rw [e] at hc; injection hc with hc; exact h1 _ hc
  · rw [Array.getElem?_eq_none (by simpa using e)] at hc; cases hc
theorem RkOk.setBx {w : World} {L : List Rk} {g i : Nat} {t : TypeId} {x0 x1 v : Value} (h : RkOk w L) (hg : Bx w g t #[x0, x1]) (h0 : ∀ n, x0 ≠ .int .u8 n) (h1 : ∀ n, x1 ≠ .int .u8 n) : RkOk (w.setCell ⟨g, i, none⟩ v) L := fun x hx =>
  ⟨(h x hx).1.keep (kept_setCell w ⟨g, i, none⟩ v) (fun b off e hl e2 => (h x hx).1.notBx hg h0 h1 b off e hl e2), (h x hx).2⟩
theorem slice_ni (a : Option Addr) (n c : Nat) : ∀ m, Value.slice a n c ≠ .int .u8 m := fun m e => by cases e
/-- The three boxes of the call, and the list so far. -/
structure RO (w : World) (B b2 b4 b5 : Nat) (lv : Value) (L : List Rk) : Prop where
  x2 : Bx w b2 28 #[.slice none 0 0, .slice none 0 0]
  x4 : Bx w b4 28 #[.slice none 0 0, .slice none 0 0]
  x5 : Bx w b5 28 #[.slice none 0 0, lv]
  own : OwnR w B lv L
  ok : RkOk w L
  l2 : B ≤ b2
  l5 : B ≤ b5
  n25 : b2 ≠ b5
  n45 : b4 ≠ b5
theorem RO.below {w w' : World} {B b2 b4 b5 : Nat} {lv : Value} {L : List Rk} (h : RO w B b2 b4 b5 lv L) (hb : Below w.heap.size w w') : RO w' B b2 b4 b5 lv L :=
  ⟨h.x2.below hb, h.x4.below hb, h.x5.below hb, h.own.below hb, h.ok.below hb, h.l2, h.l5, h.n25, h.n45⟩
theorem RO.ne5 {w : World} {B b2 b4 b5 : Nat} {lv lv' : Value} {L L' : List Rk} (h : RO w B b2 b4 b5 lv L) {B' : Nat} (ho : OwnR w B' lv' L') : lv'.ownBlock ≠ some b5 := fun e => by
  rcases ho.2 with ⟨h1, _⟩ | ⟨g', cap, cur, hv, hbg, hh, r⟩
  · rw [h1] at e; cases e
  · rw [hv] at e
    injection e with e
    subst e
    exact ty_ne hh h.x5 (by decide) rfl
theorem RO.setL {w : World} {B b2 b4 b5 : Nat} {lv : Value} {L : List Rk} (h : RO w B b2 b4 b5 lv L) {a' : Option Addr} {n' c' : Nat} {L' : List Rk} (ho : OwnR w B (.slice a' n' c') L') (hk : RkOk w L') : RO (w.setCell ⟨b5, 1, none⟩ (.slice a' n' c')) B b2 b4 b5 (.slice a' n' c') L' := by
  obtain ⟨la, lc, hlv, _⟩ := h.own.at
  have hx := h.x5
  rw [hlv] at hx
  refine ⟨h.x2.other _ _ h.n25, h.x4.other _ _ h.n45, h.x5.set 1 _ rfl, ho.keep (kept_setCell w ⟨b5, 1, none⟩ _) (fun k e e2 => h.ne5 ho (by rw [e, e2])), hk.setBx hx (slice_ni _ _ _) (slice_ni _ _ _), h.l2, h.l5, h.n25, h.n45⟩
/-- The document's list is that of the entries. -/
def SameL (l : List UInt8) (K : List Ke) (L : List Rk) : Prop := L.map (fun x => (x.nm, x.bs)) = K.map (fun e => (e.nm, seg l e.fr e.to))
theorem SameL.nm {l : List UInt8} {K : List Ke} {L : List Rk} (h : SameL l K L) : rNm L = kNm K := by
  have := congrArg (List.map Prod.fst) h
  rw [List.map_map, List.map_map] at this
  exact this
theorem SameL.len {l : List UInt8} {K : List Ke} {L : List Rk} (h : SameL l K L) : L.length = K.length := by
  have := congrArg List.length h
  rwa [List.length_map, List.length_map] at this
theorem SameL.put {l : List UInt8} {K : List Ke} {L : List Rk} (h : SameL l K L) (p : Nat) (b : Bool) (x : Rk) (e : Ke) (h1 : x.nm = e.nm) (h2 : x.bs = seg l e.fr e.to) : SameL l (putN p b K e) (putN p b L x) := by
  unfold SameL
  rw [putN_map, putN_map, h, h1, h2]
theorem SameL.cut {l : List UInt8} {K : List Ke} {L : List Rk} (h : SameL l K L) (p : Nat) (b : Bool) : SameL l (cutN p b K) (cutN p b L) := by
  unfold SameL
  rw [cutN_map, cutN_map, h]
theorem numV_one {l : List UInt8} {k : Nat} (h : k < l.length) : numV l k 1 = at8 l k := by
  unfold numV at8
  rw [if_neg (by omega), if_neg (by omega)]
  have : (l.drop k).take 1 = [l[k]] := by rw [List.drop_eq_getElem_cons h]; rfl
  rw [this, List.getD_eq_getElem?_getD, List.getElem?_eq_getElem h]
  simp [beN]
theorem take_ok {l : List UInt8} {k n : Nat} (h : takeE l k (n : Int) = 0) : takeK l k (n : Int) = k + n ∧ takeL l k (n : Int) = seg l k (k + n) ∧ k + n ≤ l.length ∨ l.length < k := by
  by_cases hk : l.length < k
  · exact Or.inr hk
  · left
    unfold takeE at h
    split at h
    · omega
    · split at h
      · omega
      · rename_i h1 h2
        refine ⟨by unfold takeK; rw [if_neg (by omega), if_neg h2, Int.toNat_natCast], ?_, by omega⟩
        unfold takeL seg
        rw [if_neg (by omega), if_neg h2, Int.toNat_natCast, show k + n - k = n by omega]
theorem srcB_take {w : World} {ao : Option Addr} {c : Nat} {l : List UInt8} {k : Nat} (h : BAt w ao l) (hn : ao = none → l = []) (hk : k ≤ l.length) (hc : ao = none → c = 0) : SrcB w (.slice ao k c) (l.take k) := by
  have hl : (l.take k).length = k := by rw [List.length_take]; omega
  cases ao with
  | none =>
    have h1 := hn rfl
    have h2 := hc rfl
    subst h1 h2
    have h3 : k = 0 := by simpa using hk
    subst h3
    exact Or.inl ⟨rfl, by simp⟩
  | some x => exact Or.inr ⟨x, c, by rw [hl], BAt.take (m := l.drop k) (by rw [List.take_append_drop]; exact h)⟩
theorem RkOk.far {W w w' : World} {L : List Rk} (h0 : RkOk W L) (h : RkOk w L) (hk : Kept (fun q => q = W.heap.size) w w') : RkOk w' L := fun x hx => ⟨(h x hx).1.keep hk (fun b off e hl e2 => by
  obtain ⟨b', off', e', hc⟩ := (h0 x hx).1 0 hl
  rw [e] at e'
  injection e' with e'
  injection e' with e1 _
  have := World.block_lt_of_cell? W _ hc
  subst e1
  simp only at this
  omega), (h x hx).2⟩
theorem RO.apart {w w' : World} {B b2 b4 b5 : Nat} {lv : Value} {L : List Rk} {N : Nat} (h : RO w B b2 b4 b5 lv L) (hk : Kept (fun q => q = N) w w') (hb : b2 ≠ N ∧ b4 ≠ N ∧ b5 ≠ N) (hl : ∀ q, lv.ownBlock = some q → q ≠ N) (ho : RkOk w' L) : RO w' B b2 b4 b5 lv L :=
  ⟨(hk.block b2 h.x2.lt hb.1).trans h.x2, (hk.block b4 h.x4.lt hb.2.1).trans h.x4, (hk.block b5 h.x5.lt hb.2.2).trans h.x5, h.own.keep hk hl, ho, h.l2, h.l5, h.n25, h.n45⟩
theorem RO.setI {w : World} {B b2 b4 b5 : Nat} {la : Option Addr} {ln lc : Nat} {L : List Rk} {I : List UInt8} (h : RO w B b2 b4 b5 (.slice la ln lc) L) (iv : Value) (ho : OwnB w B iv I) (hv : iv.ownBlock ≠ some b5) : Bx (w.setCell ⟨b5, 0, none⟩ iv) b5 28 #[iv, .slice la ln lc] ∧ Bx (w.setCell ⟨b5, 0, none⟩ iv) b2 28 #[.slice none 0 0, .slice none 0 0] ∧ OwnB (w.setCell ⟨b5, 0, none⟩ iv) B iv I ∧ OwnR (w.setCell ⟨b5, 0, none⟩ iv) B (.slice la ln lc) L ∧ RkOk (w.setCell ⟨b5, 0, none⟩ iv) L := by
  have hs := kept_setCell w ⟨b5, 0, none⟩ iv
  exact ⟨h.x5.set 0 _ rfl, h.x2.other _ _ h.n25, ho.keep hs (fun k e e2 => hv (by rw [e, e2])), h.own.keep hs (fun k e e2 => h.ne5 h.own (by rw [e, e2])), h.ok.setBx h.x5 (slice_ni _ _ _) (slice_ni _ _ _)⟩
def ROPost (w : World) (l : List UInt8) (e : Ending) (w' : World) : Prop :=
  Below w.heap.size w w' ∧ ((e = .returned (.tuple #[.agg #[.slice none 0 0, .slice none 0 0], .bool false]) ∧ openS l = none) ∨ ∃ iv lv k K L, e = .returned (.tuple #[.agg #[iv, lv], .bool true]) ∧ openS l = some (k, K) ∧ OwnB w' w.heap.size iv (l.take k) ∧ OwnR w' w.heap.size lv L ∧ RkOk w' L ∧ SameL l K L ∧ EnK k K ∧ k ≤ l.length)
set_option maxHeartbeats 16000000 in
set_option maxRecDepth 20000 in
theorem refOpen_any (ao : Option Addr) (c : Nat) (l : List UInt8) (w : World) (hl : BAt w ao l) (hn : ao = none → l = []) (hb : l.length ≤ 140737488351232) (hlc : l.length ≤ c) (hc0 : ao = none → c = 0) :
    Calls Try.prog 21 #[.slice ao l.length c] w (ROPost w l) := by
  obtain ⟨i0, hi, hz0, hz1, hz2⟩ := info_parts info8
  have HL := hide hl
  have HN := hide hn
  have HC0 := hide hc0
  clear hl hn hc0
  obtain ⟨W2, hW2⟩ : ∃ W2, W2 = (w.alloc (.cells #[.slice none 0 0, .slice none 0 0] 28)).alloc (.cells #[.slice none 0 0, .slice none 0 0] 28) := ⟨_, rfl⟩
  have HB2 : Hid (Below w.heap.size w W2) := hide (by rw [hW2]; exact ((Below.refl _ _).alloc (Nat.le_refl _) _).alloc (by simp) _)
  have HX2 : Hid (Bx W2 w.heap.size 28 #[.slice none 0 0, .slice none 0 0]) := hide (by
    rw [hW2]
    exact Bx.below (heap_alloc_new w _) ((Below.refl _ _).alloc (Nat.le_refl _) _))
  have HX4 : Hid (Bx W2 (w.heap.size + 1) 28 #[.slice none 0 0, .slice none 0 0]) := hide (by
    rw [hW2]
    have := heap_alloc_new (w.alloc (.cells #[.slice none 0 0, .slice none 0 0] 28)) (.cells #[.slice none 0 0, .slice none 0 0] 28)
    rw [World.size_alloc] at this
    exact this)
  have HSZ : Hid (W2.heap.size = w.heap.size + 2) := hide (by rw [hW2]; simp)
  have HW2 := hide hW2
  clear hW2
  by_cases hbig : 1048576 < l.length
  · have i1 : (1048576 : Int) < ((l.length : Nat) : Int) := by omega
    have HO : Hid (openS l = none) := hide (by unfold openS; rw [if_pos hbig])
    go_enter Try.func21, Try.ntmps21
    go_upto_region 2 with fail
    rw [← unhide HW2]
    have X2 : Hid (Bx (W2.setRow w.heap.size #[.slice none 0 0, .slice none 0 0]) w.heap.size 28 #[.slice none 0 0, .slice none 0 0]) := hide (setRow_heap _ _ _ _ _ _ (unhide HX2))
    have XB : Hid (Below w.heap.size w (W2.setRow w.heap.size #[.slice none 0 0, .slice none 0 0])) := hide (below_rowS (unhide HB2) (Nat.le_refl _) _)
    have y0 := (unhide HX4).c 0 rfl
    have y1 := (unhide HX4).c 1 rfl
    clear HW2
    go_wp2_with (refine wpList_store_row rfl 28 _ _ rfl w.heap.size #[.slice none 0 0, .slice none 0 0] rfl rfl 28 #[.slice none 0 0, .slice none 0 0] (unhide HX2) (by kernel_rfl) rfl (by simp [Value.oneCell']) ?_)
    exact bodyPost_ret (v := .tuple #[.agg #[.slice none 0 0, .slice none 0 0], .bool false]) (results_stS rfl _ _ w.heap.size _ _ _ rfl rfl (unhide X2)) rfl ⟨unhide XB, Or.inl ⟨rfl, unhide HO⟩⟩
  · have i1 : ¬ (1048576 : Int) < ((l.length : Nat) : Int) := by omega
    have HR0 := hide (Rest.start hbig)
    go_enter Try.func21, Try.ntmps21
    go_upto_region 2 with fail
    rw [← unhide HW2]
    have HRO : Hid (RO (W2.alloc (.cells #[.slice none 0 0, .slice none 0 0] 28)) w.heap.size w.heap.size (w.heap.size + 1) W2.heap.size (.slice none 0 0) []) := hide ⟨(unhide HX2).below ((Below.refl _ _).alloc (Nat.le_refl _) _), (unhide HX4).below ((Below.refl _ _).alloc (Nat.le_refl _) _), heap_alloc_new W2 _, World.ownsRow_nil _ _ _ _, (fun x hx => by simp at hx), Nat.le_refl _, by have := unhide HSZ; omega, by have := unhide HSZ; omega, by have := unhide HSZ; omega⟩
    have HB3 := hide ((unhide HB2).alloc (unhide HB2).size (.cells #[.slice none 0 0, .slice none 0 0] 28))
    clear HX2 HX4 HB2 HW2
    go_wp2_with fail
    generalize (W2.alloc (.cells #[.slice none 0 0, .slice none 0 0] 28)) = W3 at HRO HB3 ⊢
    obtain ⟨b4, hb4⟩ : ∃ b4, b4 = w.heap.size + 1 := ⟨_, rfl⟩
    rw [← hb4] at HRO ⊢
    generalize W2.heap.size = b5 at HRO HSZ ⊢
    clear hb4 HSZ
    go_loopw [6] (fun i wr => ∃ (k : Nat) (K : List Ke) (lv : Value) (L : List Rk), k ≤ l.length ∧ i = .int .i64 (k : Int) ∧ Hid (RO wr w.heap.size w.heap.size b4 b5 lv L) ∧ Hid (OkK K ∧ EnK k K ∧ Rest l k K ∧ SameL l K L) ∧ Hid (Below w.heap.size w wr)) (fun i _ => l.length - (intOf i).toNat)
    case atStart => exact ⟨0, [], .slice none 0 0, [], by omega, rfl, HRO, hide ⟨⟨List.Pairwise.nil, by simp⟩, (fun e h => by simp at h), unhide HR0, rfl⟩, HB3⟩
    case round =>
      obtain ⟨k, K, lv, L, hk, rfl, HR, HOK, HBr⟩ := hrel
      clear HRO HR0 HB3
      obtain ⟨la, lc, rfl, _⟩ := (unhide HR).own.at
      have hLl : L.length ≤ 16 := by rw [(unhide HOK).2.2.2.len]; exact (unhide HOK).1.few
      by_cases hlt : k < l.length
      · have j1 : ((k : Nat) : Int) < ((l.length : Nat) : Int) := by omega
        obtain ⟨b, off, hao, hcell⟩ := ((unhide HL).below' (unhide HBr)) k hlt
        subst hao
        by_cases h0 : l.getD k 0 = 0
        · have q0 : (at8 l k != 0) = false := by rw [at8_zero]; simpa using h0
          have HOS := hide ((unhide HOK).2.2.1.done (fun h => h.2 h0) hk)
          generalize at8 l k = z at hcell q0
          have hkl2 : ((k : Nat) : Int) ≤ ((l.length : Nat) : Int) := by omega
          have hkc : k ≤ c := by omega
          have hkc2 : ((k : Nat) : Int) ≤ ((c : Nat) : Int) := by omega
          have hlt2 : (l.take k).length = k := by rw [List.length_take]; omega
          have HLT := hide hlt2
          clear hlt2
          have hal : Below wr.heap.size wr (wr.alloc (.cells #[] 5)) := (Below.refl _ _).alloc (Nat.le_refl _) _
          have HRa := hide ((unhide HR).below hal)
          have HBa := hide ((unhide HBr).trans (hal.mono (unhide HBr).size))
          have HM1 : Hid (OwnB (wr.alloc (.cells #[] 5)) wr.heap.size (.slice (some ⟨wr.heap.size, 0, none⟩) 0 0) []) := hide (World.ownsRow_made wr #[] 0 (Nat.le_refl _) (by decide) rfl)
          have HSB : Hid (SrcB (wr.alloc (.cells #[] 5)) (.slice (some ⟨b, off, none⟩) k c) (l.take k)) := hide (srcB_take ((unhide HL).below' (unhide HBa)) (unhide HN) hk (fun e => by cases e))
          clear hal
          go_wp2_with (at_builtin; refine wpList_appendB rfl (.tmp 110) (.tmp 113) rfl wr.heap.size (.slice (some ⟨wr.heap.size, 0, none⟩) 0 0) [] rfl (unhide HM1) (.slice (some ⟨b, off, none⟩) k c) (l.take k) rfl (unhide HSB) ?z6 ?z4 ?_)
          case z6 => first | (rw [unhide HLT]; simp; omega) | omega
          try (case z4 => simp)
          intro v5 w5 hO5 hG5 _ _
          have hO5' : OwnB w5 wr.heap.size v5 (l.take k) := by simpa using hO5
          have HK5 : Hid (Kept (fun q => q = wr.heap.size) (wr.alloc (.cells #[] 5)) w5) := hide ((Kept.of_grown hG5).mono (fun q _ e => by injection e))
          have HR5 := hide (RO.apart (unhide HRa) (unhide HK5) (by have := (unhide HR).x2.lt; have := (unhide HR).x4.lt; have := (unhide HR).x5.lt; exact ⟨by omega, by omega, by omega⟩) (fun q e => by have := (World.ownsRow.lt (unhide HR).own q e).2; omega) (RkOk.far (unhide HR).ok (unhide HRa).ok (unhide HK5)))
          have HB5 := hide ((unhide HBa).grown hG5 (by have := (unhide HBr).size; simp; omega) (fun q e => by have := (World.ownsRow.lt (unhide HM1) q e).1; have := (unhide HBr).size; omega))
          have HO5 := hide (hO5'.mono (unhide HBr).size)
          obtain ⟨a5, c5, hv5, _⟩ := hO5'.at
          rw [unhide HLT] at hv5
          subst hv5
          have HV5 : Hid ((Value.slice a5 k c5).ownBlock ≠ some b5) := hide (fun e => by have := (World.ownsRow.lt hO5' _ e).1; have := (unhide HR).x5.lt; omega)
          have HV2 : Hid ((Value.slice a5 k c5).ownBlock ≠ some w.heap.size) := hide (fun e => by have := (World.ownsRow.lt hO5' _ e).1; have := (unhide HR).x2.lt; omega)
          clear hO5 hO5' hG5 HK5 HRa HBa HM1 HSB
          have y5 := (unhide HR5).x5.c 0 rfl
          have f5 := (unhide HR5).x5.f 0
          have HR6 := hide ((unhide HR5).setI (.slice a5 k c5) (unhide HO5) (unhide HV5))
          have HB6 : Hid (Below w.heap.size w (w5.setCell ⟨b5, 0, none⟩ (.slice a5 k c5))) := hide ((unhide HB5).setCell (p := ⟨b5, 0, none⟩) (unhide HR5).l5 _)
          go_upto_region 26 with fail
          generalize (w5.setCell ⟨b5, 0, none⟩ (.slice a5 k c5)) = w6 at HR6 HB6 ⊢
          have g0 := (unhide HR6).1.c 0 rfl
          have g1 := (unhide HR6).1.c 1 rfl
          have HX2 := hide (unhide HR6).2.1
          have X2 : Hid (Bx (w6.setRow w.heap.size #[.slice a5 k c5, .slice la L.length lc]) w.heap.size 28 #[.slice a5 k c5, .slice la L.length lc]) := hide (setRow_heap _ _ _ _ _ _ (unhide HX2))
          have XB : Hid (Below w.heap.size w (w6.setRow w.heap.size #[.slice a5 k c5, .slice la L.length lc])) := hide (below_rowS (unhide HB6) (Nat.le_refl _) _)
          have hks := kept_row w6 w.heap.size #[.slice a5 k c5, .slice la L.length lc]
          have XI : Hid (OwnB (w6.setRow w.heap.size #[.slice a5 k c5, .slice la L.length lc]) w.heap.size (.slice a5 k c5) (l.take k)) := hide ((unhide HR6).2.2.1.keep hks (fun q e e2 => unhide HV2 (by rw [e, e2])))
          have XL : Hid (OwnR (w6.setRow w.heap.size #[.slice a5 k c5, .slice la L.length lc]) w.heap.size (.slice la L.length lc) L) := hide ((unhide HR6).2.2.2.1.keep hks (fun q e e2 => by
            subst e2
            rcases (unhide HR6).2.2.2.1.2 with ⟨h1, _⟩ | ⟨g', cap, cur, hv, hbg, hh, r⟩
            · rw [h1] at e; cases e
            · rw [hv] at e
              injection e with e
              subst e
              exact ty_ne hh (unhide HX2) (by decide) rfl))
          have XK : Hid (RkOk (w6.setRow w.heap.size #[.slice a5 k c5, .slice la L.length lc]) L) := hide (fun x hx => ⟨((unhide HR6).2.2.2.2 x hx).1.keep hks (fun b' off' e hl e2 => ((unhide HR6).2.2.2.2 x hx).1.notBx (unhide HX2) (slice_ni _ _ _) (slice_ni _ _ _) b' off' e hl e2), ((unhide HR6).2.2.2.2 x hx).2⟩)
          clear hks
          go_wp2_with (refine wpList_store_row rfl 28 _ _ rfl w.heap.size #[.slice a5 k c5, .slice la L.length lc] rfl rfl 28 #[.slice none 0 0, .slice none 0 0] (unhide HX2) (by kernel_rfl) rfl (by simp [Value.oneCell']) ?_)
          exact bodyPost_ret (v := .tuple #[.agg #[.slice a5 k c5, .slice la L.length lc], .bool true]) (results_stS rfl _ _ w.heap.size _ _ _ rfl rfl (unhide X2)) rfl ⟨unhide XB, Or.inr ⟨_, _, k, K, L, rfl, unhide HOS, unhide XI, unhide XL, unhide XK, (unhide HOK).2.2.2, (unhide HOK).2.1, hk⟩⟩
        · have q0 : (at8 l k != 0) = true := by rw [at8_zero]; simpa using h0
          have hz0 : 0 < at8 l k := by
            have h1 : (at8 l k) ≠ 0 := by simpa using q0
            have h2 : 0 ≤ at8 l k := by unfold at8; omega
            omega
          have HNm := hide (refName_u (some ⟨b, off, none⟩) c l (k + 1) wr ((unhide HL).below' (unhide HBr)) (by omega) (by omega))
          have hk1 : numK l k 1 = k + 1 := by unfold numK; rw [if_neg (by omega)]
          have hv1 := numV_one hlt
          have HSTEP : Hid (stepS l k K = (if nmE l (k + 1) ≠ 0 then none else if at8 l k = 1 then keptD l (nmK l (k + 1)) K (nmA l (k + 1)) else if at8 l k = 2 then (if hasN (kNm K) (nmA l (k + 1)) = true then some (nmK l (k + 1), cutN (posN (kNm K) (nmA l (k + 1))) true K) else none) else none)) := hide (by unfold stepS; rw [hk1, hv1])
          have HH0 := hide h0
          have HNA : Hid (nmA l (k + 1) = ⟨(nmL l (k + 1)).toArray⟩) := hide rfl
          rw [← unhide HNA] at HNm
          have hnk : nmK l (k + 1) ≤ l.length := by
            unfold nmK
            split
            · rename_i h; have := (nm_ok h).2.2; omega
            · omega
          generalize at8 l k = z at hcell q0 hz0 HSTEP
          clear hk1 hv1 h0 HNA
          by_cases hz2 : 2 < z
          · have HNO : Hid (openS l = none) := hide ((unhide HOK).2.2.1.none hlt (unhide HH0) (by rw [unhide HSTEP]; split; rfl; rw [if_neg (by omega), if_neg (by omega)]))
            generalize nmE l (k + 1) = ne at HNm
            go_wp2_with fail
            rw [show ((k : Nat) : Int) + 1 = ((k + 1 : Nat) : Int) from by omega]
            refine (unhide HNm).mono ?_
            rintro e Wn ⟨rfl, hbn⟩
            have HRn := hide ((unhide HR).below hbn)
            have HBn := hide ((unhide HBr).trans (hbn.mono (unhide HBr).size))
            clear hbn HNm hcell
            have X2 : Hid (Bx (Wn.setRow w.heap.size #[.slice none 0 0, .slice none 0 0]) w.heap.size 28 #[.slice none 0 0, .slice none 0 0]) := hide (setRow_heap _ _ _ _ _ _ (unhide HRn).x2)
            have XB : Hid (Below w.heap.size w (Wn.setRow w.heap.size #[.slice none 0 0, .slice none 0 0])) := hide (below_rowS (unhide HBn) (Nat.le_refl _) _)
            have y0 := (unhide HRn).x4.c 0 rfl
            have y1 := (unhide HRn).x4.c 1 rfl
            have HX2 := hide (unhide HRn).x2
            go_wp2_with (refine wpList_store_row rfl 28 _ _ rfl w.heap.size #[.slice none 0 0, .slice none 0 0] rfl rfl 28 #[.slice none 0 0, .slice none 0 0] (unhide HX2) (by kernel_rfl) rfl (by simp [Value.oneCell']) ?_)
            exact bodyPost_ret (v := .tuple #[.agg #[.slice none 0 0, .slice none 0 0], .bool false]) (results_stS rfl _ _ w.heap.size _ _ _ rfl rfl (unhide X2)) rfl ⟨unhide XB, Or.inl ⟨rfl, unhide HNO⟩⟩
          · by_cases e1 : nmE l (k + 1) = 0
            · rw [e1] at HNm
              have HSN := hide (nm_ok e1).1
              have HST2 : Hid (stepS l k K = (if z = 1 then keptD l (nmK l (k + 1)) K (nmA l (k + 1)) else if z = 2 then (if hasN (kNm K) (nmA l (k + 1)) = true then some (nmK l (k + 1), cutN (posN (kNm K) (nmA l (k + 1))) true K) else none) else none)) := hide (by rw [unhide HSTEP, if_neg (by simp [e1])])
              have HRN : Hid (rNm L = kNm K) := hide (unhide HOK).2.2.2.nm
              clear HSTEP e1
              generalize nmK l (k + 1) = k2 at HNm HST2 hnk
              generalize nmA l (k + 1) = s at HNm HST2 HSN
              obtain ⟨p, hp⟩ : ∃ p, posN (rNm L) s = p := ⟨_, rfl⟩
              have HPK : Hid (posN (kNm K) s = p) := hide (by rw [← unhide HRN]; exact hp)
              have hps := hp
              clear hp
              by_cases hz1 : z = 1
              · subst hz1
                obtain ⟨n, hn⟩ : ∃ n : Nat, numV l k2 2 = (n : Int) := ⟨(numV l k2 2).toNat, by have := num2 l k2; omega⟩
                have hk3 : numK l k2 2 ≤ l.length := by unfold numK; split <;> omega
                have HKD : Hid (stepS l k K = keptD l k2 K s) := hide (by rw [unhide HST2, if_pos rfl])
                clear HST2
                by_cases e5 : numE l k2 2 = 0
                · by_cases e6 : 4096 < n
                  · -- L6
                    have HNO : Hid (openS l = none) := hide ((unhide HOK).2.2.1.none hlt (unhide HH0) (by rw [unhide HKD]; unfold keptD; rw [if_pos (Or.inr (Or.inl (by rw [hn]; omega)))]))
                    have j6 : (4096 : Int) < (n : Int) := by omega
                    obtain ⟨hh, hhs⟩ : ∃ hh, hasN (rNm L) s = hh := ⟨_, rfl⟩
                    go_wp2_with fail
                    rw [show ((k : Nat) : Int) + 1 = ((k + 1 : Nat) : Int) from by omega]
                    refine (unhide HNm).mono ?_
                    rintro e Wn ⟨rfl, hbn⟩
                    have HRn := hide ((unhide HR).below hbn)
                    have HBn := hide ((unhide HBr).trans (hbn.mono (unhide HBr).size))
                    clear hbn HNm hcell
                    have y5 := (unhide HRn).x5.c 1 rfl
                    have HPl := hide (place_any s (unhide HRn).own (by omega))
                    rw [hps, hhs] at HPl
                    go_wp2_with fail
                    refine (unhide HPl).mono ?_
                    rintro e Wp ⟨rfl, hbp⟩
                    have HRp := hide ((unhide HRn).below hbp)
                    have HBp := hide ((unhide HBn).trans (hbp.mono (unhide HBn).size))
                    clear hbp HPl y5
                    have HNu := hide (refNumber_any (some ⟨b, off, none⟩) c l k2 2 Wp ((unhide HL).below' (unhide HBp)) (by omega) hnk (Or.inr (Or.inl rfl)))
                    rw [e5, hn] at HNu
                    go_wp2_with fail
                    refine (unhide HNu).mono ?_
                    rintro e Wz ⟨rfl, hw⟩
                    rw [hw]
                    clear hw Wz HNu
                    have X2 : Hid (Bx (Wp.setRow w.heap.size #[.slice none 0 0, .slice none 0 0]) w.heap.size 28 #[.slice none 0 0, .slice none 0 0]) := hide (setRow_heap _ _ _ _ _ _ (unhide HRp).x2)
                    have XB : Hid (Below w.heap.size w (Wp.setRow w.heap.size #[.slice none 0 0, .slice none 0 0])) := hide (below_rowS (unhide HBp) (Nat.le_refl _) _)
                    have y0 := (unhide HRp).x4.c 0 rfl
                    have y1 := (unhide HRp).x4.c 1 rfl
                    have HX2 := hide (unhide HRp).x2
                    go_wp2_with (refine wpList_store_row rfl 28 _ _ rfl w.heap.size #[.slice none 0 0, .slice none 0 0] rfl rfl 28 #[.slice none 0 0, .slice none 0 0] (unhide HX2) (by kernel_rfl) rfl (by simp [Value.oneCell']) ?_)
                    exact bodyPost_ret (v := .tuple #[.agg #[.slice none 0 0, .slice none 0 0], .bool false]) (results_stS rfl _ _ w.heap.size _ _ _ rfl rfl (unhide X2)) rfl ⟨unhide XB, Or.inl ⟨rfl, unhide HNO⟩⟩
                  · obtain ⟨k3, hk3e⟩ : ∃ k3, numK l k2 2 = k3 := ⟨_, rfl⟩
                    have HKD2 : Hid (keptD l k2 K s = (if (hasN (kNm K) s || decide (K.length < 16)) = false ∨ takeE l k3 (n : Int) ≠ 0 then none else some (takeK l k3 (n : Int), putN p (hasN (kNm K) s) K ⟨s, k3, k3 + n⟩))) := hide (by
                      unfold keptD
                      rw [e5, hn, hk3e, unhide HPK, Int.toNat_natCast]
                      have h1 : ¬ ((0 : Int) ≠ 0) := by simp
                      have h2 : ¬ ((4096 : Int) < (n : Int)) := by omega
                      simp only [h1, h2, false_or])
                    rw [hk3e] at hk3
                    have j6 : ¬ (4096 : Int) < (n : Int) := by omega
                    by_cases e7 : takeE l k3 (n : Int) = 0
                    · have htk : takeK l k3 (n : Int) = k3 + n ∧ takeL l k3 (n : Int) = seg l k3 (k3 + n) ∧ k3 + n ≤ l.length := (take_ok e7).resolve_right (by omega)
                      cases hhs : hasN (rNm L) s
                      · by_cases e8 : L.length = 16
                        · -- L8
                          have HH2 : Hid (hasN (kNm K) s = false) := hide (by rw [← unhide HRN]; exact hhs)
                          have HNO : Hid (openS l = none) := hide ((unhide HOK).2.2.1.none hlt (unhide HH0) (by rw [unhide HKD, unhide HKD2, if_pos (Or.inl (by rw [unhide HH2, ← (unhide HOK).2.2.2.len, e8]; rfl))]))
                          have j8 : (((L.length : Nat) : Int) == 16) = true := by rw [e8]; rfl
                          clear e8
                          go_wp2_with fail
                          rw [show ((k : Nat) : Int) + 1 = ((k + 1 : Nat) : Int) from by omega]
                          refine (unhide HNm).mono ?_
                          rintro e Wn ⟨rfl, hbn⟩
                          have HRn := hide ((unhide HR).below hbn)
                          have HBn := hide ((unhide HBr).trans (hbn.mono (unhide HBr).size))
                          clear hbn HNm hcell
                          have y5 := (unhide HRn).x5.c 1 rfl
                          have HPl := hide (place_any s (unhide HRn).own (by omega))
                          rw [hps, hhs] at HPl
                          go_wp2_with fail
                          refine (unhide HPl).mono ?_
                          rintro e Wp ⟨rfl, hbp⟩
                          have HRp := hide ((unhide HRn).below hbp)
                          have HBp := hide ((unhide HBn).trans (hbp.mono (unhide HBn).size))
                          clear hbp HPl y5
                          have HNu := hide (refNumber_any (some ⟨b, off, none⟩) c l k2 2 Wp ((unhide HL).below' (unhide HBp)) (by omega) hnk (Or.inr (Or.inl rfl)))
                          rw [e5, hn, hk3e] at HNu
                          go_wp2_with fail
                          refine (unhide HNu).mono ?_
                          rintro e Wz ⟨rfl, hw⟩
                          rw [hw]
                          clear hw Wz HNu
                          have HTa := hide (refTake_any (some ⟨b, off, none⟩) c l k3 (n : Int) Wp ((unhide HL).below' (unhide HBp)) (by omega) hk3)
                          rw [e7] at HTa
                          go_wp2_with fail
                          refine (unhide HTa).mono ?_
                          rintro e Wt ⟨vt, rfl, hOt, hbt⟩
                          have HRt := hide ((unhide HRp).below hbt)
                          have HBt := hide ((unhide HBp).trans (hbt.mono (unhide HBp).size))
                          have HOt := hide hOt
                          obtain ⟨ta, tc, hvt, htb, htn, _⟩ := hOt.atN
                          have HTB := hide (And.intro htb htn)
                          subst hvt
                          have y5 := (unhide HRt).x5.c 1 rfl
                          clear hbt hOt HTa htb htn
                          have X2 : Hid (Bx (Wt.setRow w.heap.size #[.slice none 0 0, .slice none 0 0]) w.heap.size 28 #[.slice none 0 0, .slice none 0 0]) := hide (setRow_heap _ _ _ _ _ _ (unhide HRt).x2)
                          have XB : Hid (Below w.heap.size w (Wt.setRow w.heap.size #[.slice none 0 0, .slice none 0 0])) := hide (below_rowS (unhide HBt) (Nat.le_refl _) _)
                          have y0 := (unhide HRt).x4.c 0 rfl
                          have y1 := (unhide HRt).x4.c 1 rfl
                          have HX2 := hide (unhide HRt).x2
                          go_wp2_with (refine wpList_store_row rfl 28 _ _ rfl w.heap.size #[.slice none 0 0, .slice none 0 0] rfl rfl 28 #[.slice none 0 0, .slice none 0 0] (unhide HX2) (by kernel_rfl) rfl (by simp [Value.oneCell']) ?_)
                          exact bodyPost_ret (v := .tuple #[.agg #[.slice none 0 0, .slice none 0 0], .bool false]) (results_stS rfl _ _ w.heap.size _ _ _ rfl rfl (unhide X2)) rfl ⟨unhide XB, Or.inl ⟨rfl, unhide HNO⟩⟩
                        · -- L9
                          have HH2 : Hid (hasN (kNm K) s = false) := hide (by rw [← unhide HRN]; exact hhs)
                          have HSt : Hid (stepS l k K = some (k3 + n, putN p false K ⟨s, k3, k3 + n⟩)) := hide (by rw [unhide HKD, unhide HKD2, if_neg (by rw [unhide HH2]; simp [e7]; rw [← (unhide HOK).2.2.2.len]; omega), htk.1, unhide HH2])
                          have HNX := hide (step_ok hlt (unhide HSt) (unhide HOK).1 (unhide HOK).2.1)
                          have HRST := hide ((unhide HOK).2.2.1.step hlt (unhide HH0) (unhide HSt) (unhide HNX).1)
                          have HSM2 := hide (fun ta tc => (unhide HOK).2.2.2.put p false ⟨s, ta, tc, takeL l k3 (n : Int)⟩ ⟨s, k3, k3 + n⟩ rfl htk.2.1)
                          have hk4 := htk.2.2
                          have HTK1 := hide htk.1
                          clear htk
                          generalize (putN p false K ⟨s, k3, k3 + n⟩) = K2 at HSt HNX HRST HSM2
                          have j8 : (((L.length : Nat) : Int) == 16) = false := by simp; omega
                          go_wp2_with fail
                          rw [show ((k : Nat) : Int) + 1 = ((k + 1 : Nat) : Int) from by omega]
                          refine (unhide HNm).mono ?_
                          rintro e Wn ⟨rfl, hbn⟩
                          have HRn := hide ((unhide HR).below hbn)
                          have HBn := hide ((unhide HBr).trans (hbn.mono (unhide HBr).size))
                          clear hbn HNm hcell
                          have y5 := (unhide HRn).x5.c 1 rfl
                          have HPl := hide (place_any s (unhide HRn).own (by omega))
                          rw [hps, hhs] at HPl
                          go_wp2_with fail
                          refine (unhide HPl).mono ?_
                          rintro e Wp ⟨rfl, hbp⟩
                          have HRp := hide ((unhide HRn).below hbp)
                          have HBp := hide ((unhide HBn).trans (hbp.mono (unhide HBn).size))
                          clear hbp HPl y5
                          have HNu := hide (refNumber_any (some ⟨b, off, none⟩) c l k2 2 Wp ((unhide HL).below' (unhide HBp)) (by omega) hnk (Or.inr (Or.inl rfl)))
                          rw [e5, hn, hk3e] at HNu
                          go_wp2_with fail
                          refine (unhide HNu).mono ?_
                          rintro e Wz ⟨rfl, hw⟩
                          rw [hw]
                          clear hw Wz HNu
                          have HTa := hide (refTake_any (some ⟨b, off, none⟩) c l k3 (n : Int) Wp ((unhide HL).below' (unhide HBp)) (by omega) hk3)
                          rw [e7, unhide HTK1] at HTa
                          go_wp2_with fail
                          refine (unhide HTa).mono ?_
                          rintro e Wt ⟨vt, rfl, hOt, hbt⟩
                          have HRt := hide ((unhide HRp).below hbt)
                          have HBt := hide ((unhide HBp).trans (hbt.mono (unhide HBp).size))
                          have HOt := hide hOt
                          obtain ⟨ta, tc, hvt, htb, htn, _⟩ := hOt.atN
                          have HTB := hide (And.intro htb htn)
                          subst hvt
                          have y5 := (unhide HRt).x5.c 1 rfl
                          clear hbt hOt HTa htb htn
                          have HSM2 := hide (unhide HSM2 ta tc)
                          have HWi := hide (with_any s ta tc (takeL l k3 (n : Int)) (unhide HRt).own (by omega))
                          rw [hps, hhs] at HWi
                          go_wp2_with fail
                          refine (unhide HWi).mono ?_
                          rintro e Ww ⟨vw, rfl, hOw, hbw⟩
                          obtain ⟨wa, wc, hvw, _⟩ := hOw.at
                          subst hvw
                          have HRw := hide ((unhide HRt).below hbw)
                          have HBw := hide ((unhide HBt).trans (hbw.mono (unhide HBt).size))
                          have HKw : Hid (RkOk Ww (putN p false L ⟨s, ta, tc, takeL l k3 (n : Int)⟩)) := hide (fun x hx => by
                            rcases putN_mem hx with rfl | hx
                            · exact ⟨(unhide HTB).1.below' hbw, (unhide HTB).2⟩
                            · exact (unhide HRw).ok x hx)
                          have HOw := hide (own_moreR hOw (unhide HBt).size)
                          have HRs := hide ((unhide HRw).setL (unhide HOw) (unhide HKw))
                          have HBs : Hid (Below w.heap.size w (Ww.setCell ⟨b5, 1, none⟩ (.slice wa (putN p false L ⟨s, ta, tc, takeL l k3 (n : Int)⟩).length wc))) := hide ((unhide HBw).setCell (p := ⟨b5, 1, none⟩) (unhide HRw).l5 _)
                          have y5 := (unhide HRw).x5.c 1 rfl
                          have f5 := (unhide HRw).x5.f 1
                          clear hOw hbw HWi
                          have HSTP := hide (unhide HSt)
                          generalize (putN p false L ⟨s, ta, tc, takeL l k3 (n : Int)⟩) = L2 at HRs HBs HSM2 ⊢
                          go_wp2
                          go_roundw
                          case rel => exact ⟨k3 + n, K2, _, L2, by omega, rfl, HRs, hide ⟨(unhide HNX).2.1, (unhide HNX).2.2, (unhide HRST), unhide HSM2⟩, HBs⟩
                          case measure => simp [intOf]; have := (unhide HNX).1; omega
                      · -- L10
                        have HH2 : Hid (hasN (kNm K) s = true) := hide (by rw [← unhide HRN]; exact hhs)
                        have HSt : Hid (stepS l k K = some (k3 + n, putN p true K ⟨s, k3, k3 + n⟩)) := hide (by rw [unhide HKD, unhide HKD2, if_neg (by rw [unhide HH2]; simp [e7]), htk.1, unhide HH2])
                        have HNX := hide (step_ok hlt (unhide HSt) (unhide HOK).1 (unhide HOK).2.1)
                        have HRST := hide ((unhide HOK).2.2.1.step hlt (unhide HH0) (unhide HSt) (unhide HNX).1)
                        have HSM2 := hide (fun ta tc => (unhide HOK).2.2.2.put p true ⟨s, ta, tc, takeL l k3 (n : Int)⟩ ⟨s, k3, k3 + n⟩ rfl htk.2.1)
                        have hk4 := htk.2.2
                        have HTK1 := hide htk.1
                        clear htk
                        generalize (putN p true K ⟨s, k3, k3 + n⟩) = K2 at HSt HNX HRST HSM2
                        go_wp2_with fail
                        rw [show ((k : Nat) : Int) + 1 = ((k + 1 : Nat) : Int) from by omega]
                        refine (unhide HNm).mono ?_
                        rintro e Wn ⟨rfl, hbn⟩
                        have HRn := hide ((unhide HR).below hbn)
                        have HBn := hide ((unhide HBr).trans (hbn.mono (unhide HBr).size))
                        clear hbn HNm hcell
                        have y5 := (unhide HRn).x5.c 1 rfl
                        have HPl := hide (place_any s (unhide HRn).own (by omega))
                        rw [hps, hhs] at HPl
                        go_wp2_with fail
                        refine (unhide HPl).mono ?_
                        rintro e Wp ⟨rfl, hbp⟩
                        have HRp := hide ((unhide HRn).below hbp)
                        have HBp := hide ((unhide HBn).trans (hbp.mono (unhide HBn).size))
                        clear hbp HPl y5
                        have HNu := hide (refNumber_any (some ⟨b, off, none⟩) c l k2 2 Wp ((unhide HL).below' (unhide HBp)) (by omega) hnk (Or.inr (Or.inl rfl)))
                        rw [e5, hn, hk3e] at HNu
                        go_wp2_with fail
                        refine (unhide HNu).mono ?_
                        rintro e Wz ⟨rfl, hw⟩
                        rw [hw]
                        clear hw Wz HNu
                        have HTa := hide (refTake_any (some ⟨b, off, none⟩) c l k3 (n : Int) Wp ((unhide HL).below' (unhide HBp)) (by omega) hk3)
                        rw [e7, unhide HTK1] at HTa
                        go_wp2_with fail
                        refine (unhide HTa).mono ?_
                        rintro e Wt ⟨vt, rfl, hOt, hbt⟩
                        have HRt := hide ((unhide HRp).below hbt)
                        have HBt := hide ((unhide HBp).trans (hbt.mono (unhide HBp).size))
                        have HOt := hide hOt
                        obtain ⟨ta, tc, hvt, htb, htn, _⟩ := hOt.atN
                        have HTB := hide (And.intro htb htn)
                        subst hvt
                        have y5 := (unhide HRt).x5.c 1 rfl
                        clear hbt hOt HTa htb htn
                        have HSM2 := hide (unhide HSM2 ta tc)
                        have HWi := hide (with_any s ta tc (takeL l k3 (n : Int)) (unhide HRt).own (by omega))
                        rw [hps, hhs] at HWi
                        go_wp2_with fail
                        refine (unhide HWi).mono ?_
                        rintro e Ww ⟨vw, rfl, hOw, hbw⟩
                        obtain ⟨wa, wc, hvw, _⟩ := hOw.at
                        subst hvw
                        have HRw := hide ((unhide HRt).below hbw)
                        have HBw := hide ((unhide HBt).trans (hbw.mono (unhide HBt).size))
                        have HKw : Hid (RkOk Ww (putN p true L ⟨s, ta, tc, takeL l k3 (n : Int)⟩)) := hide (fun x hx => by
                          rcases putN_mem hx with rfl | hx
                          · exact ⟨(unhide HTB).1.below' hbw, (unhide HTB).2⟩
                          · exact (unhide HRw).ok x hx)
                        have HOw := hide (own_moreR hOw (unhide HBt).size)
                        have HRs := hide ((unhide HRw).setL (unhide HOw) (unhide HKw))
                        have HBs : Hid (Below w.heap.size w (Ww.setCell ⟨b5, 1, none⟩ (.slice wa (putN p true L ⟨s, ta, tc, takeL l k3 (n : Int)⟩).length wc))) := hide ((unhide HBw).setCell (p := ⟨b5, 1, none⟩) (unhide HRw).l5 _)
                        have y5 := (unhide HRw).x5.c 1 rfl
                        have f5 := (unhide HRw).x5.f 1
                        clear hOw hbw HWi
                        have HSTP := hide (unhide HSt)
                        generalize (putN p true L ⟨s, ta, tc, takeL l k3 (n : Int)⟩) = L2 at HRs HBs HSM2 ⊢
                        go_wp2
                        go_roundw
                        case rel => exact ⟨k3 + n, K2, _, L2, by omega, rfl, HRs, hide ⟨(unhide HNX).2.1, (unhide HNX).2.2, (unhide HRST), unhide HSM2⟩, HBs⟩
                        case measure => simp [intOf]; have := (unhide HNX).1; omega
                    · cases hhs : hasN (rNm L) s
                      · have HNO : Hid (openS l = none) := hide ((unhide HOK).2.2.1.none hlt (unhide HH0) (by rw [unhide HKD, unhide HKD2, if_pos (Or.inr e7)]))
                        go_wp2_with fail
                        rw [show ((k : Nat) : Int) + 1 = ((k + 1 : Nat) : Int) from by omega]
                        refine (unhide HNm).mono ?_
                        rintro e Wn ⟨rfl, hbn⟩
                        have HRn := hide ((unhide HR).below hbn)
                        have HBn := hide ((unhide HBr).trans (hbn.mono (unhide HBr).size))
                        clear hbn HNm hcell
                        have y5 := (unhide HRn).x5.c 1 rfl
                        have HPl := hide (place_any s (unhide HRn).own (by omega))
                        rw [hps, hhs] at HPl
                        go_wp2_with fail
                        refine (unhide HPl).mono ?_
                        rintro e Wp ⟨rfl, hbp⟩
                        have HRp := hide ((unhide HRn).below hbp)
                        have HBp := hide ((unhide HBn).trans (hbp.mono (unhide HBn).size))
                        clear hbp HPl y5
                        have HNu := hide (refNumber_any (some ⟨b, off, none⟩) c l k2 2 Wp ((unhide HL).below' (unhide HBp)) (by omega) hnk (Or.inr (Or.inl rfl)))
                        rw [e5, hn, hk3e] at HNu
                        go_wp2_with fail
                        refine (unhide HNu).mono ?_
                        rintro e Wz ⟨rfl, hw⟩
                        rw [hw]
                        clear hw Wz HNu
                        have HTa := hide (refTake_any (some ⟨b, off, none⟩) c l k3 (n : Int) Wp ((unhide HL).below' (unhide HBp)) (by omega) hk3)
                        generalize takeE l k3 (n : Int) = te at HTa e7
                        have d7 : (te != 0) = true := by simpa using e7
                        go_wp2_with fail
                        refine (unhide HTa).mono ?_
                        rintro e Wt ⟨vt, rfl, hOt, hbt⟩
                        have HRt := hide ((unhide HRp).below hbt)
                        have HBt := hide ((unhide HBp).trans (hbt.mono (unhide HBp).size))
                        have HOt := hide hOt
                        obtain ⟨ta, tc, hvt, htb, htn, _⟩ := hOt.atN
                        have HTB := hide (And.intro htb htn)
                        subst hvt
                        have y5 := (unhide HRt).x5.c 1 rfl
                        clear hbt hOt HTa htb htn
                        have X2 : Hid (Bx (Wt.setRow w.heap.size #[.slice none 0 0, .slice none 0 0]) w.heap.size 28 #[.slice none 0 0, .slice none 0 0]) := hide (setRow_heap _ _ _ _ _ _ (unhide HRt).x2)
                        have XB : Hid (Below w.heap.size w (Wt.setRow w.heap.size #[.slice none 0 0, .slice none 0 0])) := hide (below_rowS (unhide HBt) (Nat.le_refl _) _)
                        have y0 := (unhide HRt).x4.c 0 rfl
                        have y1 := (unhide HRt).x4.c 1 rfl
                        have HX2 := hide (unhide HRt).x2
                        go_wp2_with (refine wpList_store_row rfl 28 _ _ rfl w.heap.size #[.slice none 0 0, .slice none 0 0] rfl rfl 28 #[.slice none 0 0, .slice none 0 0] (unhide HX2) (by kernel_rfl) rfl (by simp [Value.oneCell']) ?_)
                        exact bodyPost_ret (v := .tuple #[.agg #[.slice none 0 0, .slice none 0 0], .bool false]) (results_stS rfl _ _ w.heap.size _ _ _ rfl rfl (unhide X2)) rfl ⟨unhide XB, Or.inl ⟨rfl, unhide HNO⟩⟩
                      · have HNO : Hid (openS l = none) := hide ((unhide HOK).2.2.1.none hlt (unhide HH0) (by rw [unhide HKD, unhide HKD2, if_pos (Or.inr e7)]))
                        go_wp2_with fail
                        rw [show ((k : Nat) : Int) + 1 = ((k + 1 : Nat) : Int) from by omega]
                        refine (unhide HNm).mono ?_
                        rintro e Wn ⟨rfl, hbn⟩
                        have HRn := hide ((unhide HR).below hbn)
                        have HBn := hide ((unhide HBr).trans (hbn.mono (unhide HBr).size))
                        clear hbn HNm hcell
                        have y5 := (unhide HRn).x5.c 1 rfl
                        have HPl := hide (place_any s (unhide HRn).own (by omega))
                        rw [hps, hhs] at HPl
                        go_wp2_with fail
                        refine (unhide HPl).mono ?_
                        rintro e Wp ⟨rfl, hbp⟩
                        have HRp := hide ((unhide HRn).below hbp)
                        have HBp := hide ((unhide HBn).trans (hbp.mono (unhide HBn).size))
                        clear hbp HPl y5
                        have HNu := hide (refNumber_any (some ⟨b, off, none⟩) c l k2 2 Wp ((unhide HL).below' (unhide HBp)) (by omega) hnk (Or.inr (Or.inl rfl)))
                        rw [e5, hn, hk3e] at HNu
                        go_wp2_with fail
                        refine (unhide HNu).mono ?_
                        rintro e Wz ⟨rfl, hw⟩
                        rw [hw]
                        clear hw Wz HNu
                        have HTa := hide (refTake_any (some ⟨b, off, none⟩) c l k3 (n : Int) Wp ((unhide HL).below' (unhide HBp)) (by omega) hk3)
                        generalize takeE l k3 (n : Int) = te at HTa e7
                        have d7 : (te != 0) = true := by simpa using e7
                        go_wp2_with fail
                        refine (unhide HTa).mono ?_
                        rintro e Wt ⟨vt, rfl, hOt, hbt⟩
                        have HRt := hide ((unhide HRp).below hbt)
                        have HBt := hide ((unhide HBp).trans (hbt.mono (unhide HBp).size))
                        have HOt := hide hOt
                        obtain ⟨ta, tc, hvt, htb, htn, _⟩ := hOt.atN
                        have HTB := hide (And.intro htb htn)
                        subst hvt
                        have y5 := (unhide HRt).x5.c 1 rfl
                        clear hbt hOt HTa htb htn
                        have X2 : Hid (Bx (Wt.setRow w.heap.size #[.slice none 0 0, .slice none 0 0]) w.heap.size 28 #[.slice none 0 0, .slice none 0 0]) := hide (setRow_heap _ _ _ _ _ _ (unhide HRt).x2)
                        have XB : Hid (Below w.heap.size w (Wt.setRow w.heap.size #[.slice none 0 0, .slice none 0 0])) := hide (below_rowS (unhide HBt) (Nat.le_refl _) _)
                        have y0 := (unhide HRt).x4.c 0 rfl
                        have y1 := (unhide HRt).x4.c 1 rfl
                        have HX2 := hide (unhide HRt).x2
                        go_wp2_with (refine wpList_store_row rfl 28 _ _ rfl w.heap.size #[.slice none 0 0, .slice none 0 0] rfl rfl 28 #[.slice none 0 0, .slice none 0 0] (unhide HX2) (by kernel_rfl) rfl (by simp [Value.oneCell']) ?_)
                        exact bodyPost_ret (v := .tuple #[.agg #[.slice none 0 0, .slice none 0 0], .bool false]) (results_stS rfl _ _ w.heap.size _ _ _ rfl rfl (unhide X2)) rfl ⟨unhide XB, Or.inl ⟨rfl, unhide HNO⟩⟩
                · -- L5
                  have HNO : Hid (openS l = none) := hide ((unhide HOK).2.2.1.none hlt (unhide HH0) (by rw [unhide HKD]; unfold keptD; rw [if_pos (Or.inl e5)]))
                  obtain ⟨hh, hhs⟩ : ∃ hh, hasN (rNm L) s = hh := ⟨_, rfl⟩
                  go_wp2_with fail
                  rw [show ((k : Nat) : Int) + 1 = ((k + 1 : Nat) : Int) from by omega]
                  refine (unhide HNm).mono ?_
                  rintro e Wn ⟨rfl, hbn⟩
                  have HRn := hide ((unhide HR).below hbn)
                  have HBn := hide ((unhide HBr).trans (hbn.mono (unhide HBr).size))
                  clear hbn HNm hcell
                  have y5 := (unhide HRn).x5.c 1 rfl
                  have HPl := hide (place_any s (unhide HRn).own (by omega))
                  rw [hps, hhs] at HPl
                  go_wp2_with fail
                  refine (unhide HPl).mono ?_
                  rintro e Wp ⟨rfl, hbp⟩
                  have HRp := hide ((unhide HRn).below hbp)
                  have HBp := hide ((unhide HBn).trans (hbp.mono (unhide HBn).size))
                  clear hbp HPl y5
                  have HNu := hide (refNumber_any (some ⟨b, off, none⟩) c l k2 2 Wp ((unhide HL).below' (unhide HBp)) (by omega) hnk (Or.inr (Or.inl rfl)))
                  generalize numE l k2 2 = te at HNu e5
                  have d5 : (te != 0) = true := by simpa using e5
                  go_wp2_with fail
                  refine (unhide HNu).mono ?_
                  rintro e Wz ⟨rfl, hw⟩
                  rw [hw]
                  clear hw Wz HNu
                  have X2 : Hid (Bx (Wp.setRow w.heap.size #[.slice none 0 0, .slice none 0 0]) w.heap.size 28 #[.slice none 0 0, .slice none 0 0]) := hide (setRow_heap _ _ _ _ _ _ (unhide HRp).x2)
                  have XB : Hid (Below w.heap.size w (Wp.setRow w.heap.size #[.slice none 0 0, .slice none 0 0])) := hide (below_rowS (unhide HBp) (Nat.le_refl _) _)
                  have y0 := (unhide HRp).x4.c 0 rfl
                  have y1 := (unhide HRp).x4.c 1 rfl
                  have HX2 := hide (unhide HRp).x2
                  go_wp2_with (refine wpList_store_row rfl 28 _ _ rfl w.heap.size #[.slice none 0 0, .slice none 0 0] rfl rfl 28 #[.slice none 0 0, .slice none 0 0] (unhide HX2) (by kernel_rfl) rfl (by simp [Value.oneCell']) ?_)
                  exact bodyPost_ret (v := .tuple #[.agg #[.slice none 0 0, .slice none 0 0], .bool false]) (results_stS rfl _ _ w.heap.size _ _ _ rfl rfl (unhide X2)) rfl ⟨unhide XB, Or.inl ⟨rfl, unhide HNO⟩⟩
              · obtain rfl : z = 2 := by omega
                clear hz1 hz2 hz0
                cases hhs : hasN (rNm L) s
                · -- L3
                  have HH2 : Hid (hasN (kNm K) s = false) := hide (by rw [← unhide HRN]; exact hhs)
                  have HNO : Hid (openS l = none) := hide ((unhide HOK).2.2.1.none hlt (unhide HH0) (by rw [unhide HST2, if_neg (by omega), if_pos rfl, unhide HH2]; rfl))
                  go_wp2_with fail
                  rw [show ((k : Nat) : Int) + 1 = ((k + 1 : Nat) : Int) from by omega]
                  refine (unhide HNm).mono ?_
                  rintro e Wn ⟨rfl, hbn⟩
                  have HRn := hide ((unhide HR).below hbn)
                  have HBn := hide ((unhide HBr).trans (hbn.mono (unhide HBr).size))
                  clear hbn HNm hcell
                  have y5 := (unhide HRn).x5.c 1 rfl
                  have HPl := hide (place_any s (unhide HRn).own (by omega))
                  rw [hps, hhs] at HPl
                  go_wp2_with fail
                  refine (unhide HPl).mono ?_
                  rintro e Wp ⟨rfl, hbp⟩
                  have HRp := hide ((unhide HRn).below hbp)
                  have HBp := hide ((unhide HBn).trans (hbp.mono (unhide HBn).size))
                  clear hbp HPl y5
                  have X2 : Hid (Bx (Wp.setRow w.heap.size #[.slice none 0 0, .slice none 0 0]) w.heap.size 28 #[.slice none 0 0, .slice none 0 0]) := hide (setRow_heap _ _ _ _ _ _ (unhide HRp).x2)
                  have XB : Hid (Below w.heap.size w (Wp.setRow w.heap.size #[.slice none 0 0, .slice none 0 0])) := hide (below_rowS (unhide HBp) (Nat.le_refl _) _)
                  have y0 := (unhide HRp).x4.c 0 rfl
                  have y1 := (unhide HRp).x4.c 1 rfl
                  have HX2 := hide (unhide HRp).x2
                  go_wp2_with (refine wpList_store_row rfl 28 _ _ rfl w.heap.size #[.slice none 0 0, .slice none 0 0] rfl rfl 28 #[.slice none 0 0, .slice none 0 0] (unhide HX2) (by kernel_rfl) rfl (by simp [Value.oneCell']) ?_)
                  exact bodyPost_ret (v := .tuple #[.agg #[.slice none 0 0, .slice none 0 0], .bool false]) (results_stS rfl _ _ w.heap.size _ _ _ rfl rfl (unhide X2)) rfl ⟨unhide XB, Or.inl ⟨rfl, unhide HNO⟩⟩
                · -- L4
                  have HH2 : Hid (hasN (kNm K) s = true) := hide (by rw [← unhide HRN]; exact hhs)
                  have HSt : Hid (stepS l k K = some (k2, cutN p true K)) := hide (by rw [unhide HST2, if_neg (by omega), if_pos rfl, if_pos (unhide HH2), unhide HPK])
                  have HNX := hide (step_ok hlt (unhide HSt) (unhide HOK).1 (unhide HOK).2.1)
                  have HRST := hide ((unhide HOK).2.2.1.step hlt (unhide HH0) (unhide HSt) (unhide HNX).1)
                  have HSM2 := hide ((unhide HOK).2.2.2.cut p true)
                  generalize (cutN p true K) = K2 at HSt HNX HRST HSM2
                  go_wp2_with fail
                  rw [show ((k : Nat) : Int) + 1 = ((k + 1 : Nat) : Int) from by omega]
                  refine (unhide HNm).mono ?_
                  rintro e Wn ⟨rfl, hbn⟩
                  have HRn := hide ((unhide HR).below hbn)
                  have HBn := hide ((unhide HBr).trans (hbn.mono (unhide HBr).size))
                  clear hbn HNm hcell
                  have y5 := (unhide HRn).x5.c 1 rfl
                  have HPl := hide (place_any s (unhide HRn).own (by omega))
                  rw [hps, hhs] at HPl
                  go_wp2_with fail
                  refine (unhide HPl).mono ?_
                  rintro e Wp ⟨rfl, hbp⟩
                  have HRp := hide ((unhide HRn).below hbp)
                  have HBp := hide ((unhide HBn).trans (hbp.mono (unhide HBn).size))
                  clear hbp HPl y5
                  have y5 := (unhide HRp).x5.c 1 rfl
                  have HWi := hide (without_any s (unhide HRp).own (by omega))
                  rw [hps, hhs] at HWi
                  go_wp2_with fail
                  refine (unhide HWi).mono ?_
                  rintro e Ww ⟨vw, rfl, hOw, hbw⟩
                  obtain ⟨wa, wc, hvw, _⟩ := hOw.at
                  subst hvw
                  have HRw := hide ((unhide HRp).below hbw)
                  have HBw := hide ((unhide HBp).trans (hbw.mono (unhide HBp).size))
                  have HKw : Hid (RkOk Ww (cutN p true L)) := hide (fun x hx => (unhide HRw).ok x (cutN_mem hx))
                  have HOw := hide (own_moreR hOw (unhide HBp).size)
                  have HRs := hide ((unhide HRw).setL (unhide HOw) (unhide HKw))
                  have HBs : Hid (Below w.heap.size w (Ww.setCell ⟨b5, 1, none⟩ (.slice wa (cutN p true L).length wc))) := hide ((unhide HBw).setCell (p := ⟨b5, 1, none⟩) (unhide HRw).l5 _)
                  have y5 := (unhide HRw).x5.c 1 rfl
                  have f5 := (unhide HRw).x5.f 1
                  clear hOw hbw HWi
                  generalize (cutN p true L) = L2 at HRs HBs HSM2 ⊢
                  go_wp2
                  go_roundw
                  case rel => exact ⟨k2, K2, _, L2, by omega, rfl, HRs, hide ⟨(unhide HNX).2.1, (unhide HNX).2.2, (unhide HRST), unhide HSM2⟩, HBs⟩
                  case measure => simp [intOf]; have := (unhide HNX).1; omega
            · have HNO : Hid (openS l = none) := hide ((unhide HOK).2.2.1.none hlt (unhide HH0) (by rw [unhide HSTEP, if_pos e1]))
              generalize nmE l (k + 1) = ne at HNm e1
              have d1 : (ne != 0) = true := by simpa using e1
              go_wp2_with fail
              rw [show ((k : Nat) : Int) + 1 = ((k + 1 : Nat) : Int) from by omega]
              refine (unhide HNm).mono ?_
              rintro e Wn ⟨rfl, hbn⟩
              have HRn := hide ((unhide HR).below hbn)
              have HBn := hide ((unhide HBr).trans (hbn.mono (unhide HBr).size))
              clear hbn HNm hcell
              have X2 : Hid (Bx (Wn.setRow w.heap.size #[.slice none 0 0, .slice none 0 0]) w.heap.size 28 #[.slice none 0 0, .slice none 0 0]) := hide (setRow_heap _ _ _ _ _ _ (unhide HRn).x2)
              have XB : Hid (Below w.heap.size w (Wn.setRow w.heap.size #[.slice none 0 0, .slice none 0 0])) := hide (below_rowS (unhide HBn) (Nat.le_refl _) _)
              have y0 := (unhide HRn).x4.c 0 rfl
              have y1 := (unhide HRn).x4.c 1 rfl
              have HX2 := hide (unhide HRn).x2
              go_wp2_with (refine wpList_store_row rfl 28 _ _ rfl w.heap.size #[.slice none 0 0, .slice none 0 0] rfl rfl 28 #[.slice none 0 0, .slice none 0 0] (unhide HX2) (by kernel_rfl) rfl (by simp [Value.oneCell']) ?_)
              exact bodyPost_ret (v := .tuple #[.agg #[.slice none 0 0, .slice none 0 0], .bool false]) (results_stS rfl _ _ w.heap.size _ _ _ rfl rfl (unhide X2)) rfl ⟨unhide XB, Or.inl ⟨rfl, unhide HNO⟩⟩
      · have j1 : ¬ ((k : Nat) : Int) < ((l.length : Nat) : Int) := by omega
        have HOS := hide ((unhide HOK).2.2.1.done (fun h => hlt h.1) hk)
        have hkl2 : ((k : Nat) : Int) ≤ ((l.length : Nat) : Int) := by omega
        have hkc : k ≤ c := by omega
        have hkc2 : ((k : Nat) : Int) ≤ ((c : Nat) : Int) := by omega
        have hlt2 : (l.take k).length = k := by rw [List.length_take]; omega
        have HLT := hide hlt2
        clear hlt2
        have hal : Below wr.heap.size wr (wr.alloc (.cells #[] 5)) := (Below.refl _ _).alloc (Nat.le_refl _) _
        have HRa := hide ((unhide HR).below hal)
        have HBa := hide ((unhide HBr).trans (hal.mono (unhide HBr).size))
        have HM1 : Hid (OwnB (wr.alloc (.cells #[] 5)) wr.heap.size (.slice (some ⟨wr.heap.size, 0, none⟩) 0 0) []) := hide (World.ownsRow_made wr #[] 0 (Nat.le_refl _) (by decide) rfl)
        have HSB : Hid (SrcB (wr.alloc (.cells #[] 5)) (.slice ao k c) (l.take k)) := hide (srcB_take ((unhide HL).below' (unhide HBa)) (unhide HN) hk (unhide HC0))
        clear hal
        go_wp2_with (at_builtin; refine wpList_appendB rfl (.tmp 110) (.tmp 113) rfl wr.heap.size (.slice (some ⟨wr.heap.size, 0, none⟩) 0 0) [] rfl (unhide HM1) (.slice ao k c) (l.take k) rfl (unhide HSB) ?z6 ?z4 ?_)
        case z6 => first | (rw [unhide HLT]; simp; omega) | omega
        try (case z4 => simp)
        intro v5 w5 hO5 hG5 _ _
        have hO5' : OwnB w5 wr.heap.size v5 (l.take k) := by simpa using hO5
        have HK5 : Hid (Kept (fun q => q = wr.heap.size) (wr.alloc (.cells #[] 5)) w5) := hide ((Kept.of_grown hG5).mono (fun q _ e => by injection e))
        have HR5 := hide (RO.apart (unhide HRa) (unhide HK5) (by have := (unhide HR).x2.lt; have := (unhide HR).x4.lt; have := (unhide HR).x5.lt; exact ⟨by omega, by omega, by omega⟩) (fun q e => by have := (World.ownsRow.lt (unhide HR).own q e).2; omega) (RkOk.far (unhide HR).ok (unhide HRa).ok (unhide HK5)))
        have HB5 := hide ((unhide HBa).grown hG5 (by have := (unhide HBr).size; simp; omega) (fun q e => by have := (World.ownsRow.lt (unhide HM1) q e).1; have := (unhide HBr).size; omega))
        have HO5 := hide (hO5'.mono (unhide HBr).size)
        obtain ⟨a5, c5, hv5, _⟩ := hO5'.at
        rw [unhide HLT] at hv5
        subst hv5
        have HV5 : Hid ((Value.slice a5 k c5).ownBlock ≠ some b5) := hide (fun e => by have := (World.ownsRow.lt hO5' _ e).1; have := (unhide HR).x5.lt; omega)
        have HV2 : Hid ((Value.slice a5 k c5).ownBlock ≠ some w.heap.size) := hide (fun e => by have := (World.ownsRow.lt hO5' _ e).1; have := (unhide HR).x2.lt; omega)
        clear hO5 hO5' hG5 HK5 HRa HBa HM1 HSB
        have y5 := (unhide HR5).x5.c 0 rfl
        have f5 := (unhide HR5).x5.f 0
        have HR6 := hide ((unhide HR5).setI (.slice a5 k c5) (unhide HO5) (unhide HV5))
        have HB6 : Hid (Below w.heap.size w (w5.setCell ⟨b5, 0, none⟩ (.slice a5 k c5))) := hide ((unhide HB5).setCell (p := ⟨b5, 0, none⟩) (unhide HR5).l5 _)
        go_upto_region 26 with fail
        generalize (w5.setCell ⟨b5, 0, none⟩ (.slice a5 k c5)) = w6 at HR6 HB6 ⊢
        have g0 := (unhide HR6).1.c 0 rfl
        have g1 := (unhide HR6).1.c 1 rfl
        have HX2 := hide (unhide HR6).2.1
        have X2 : Hid (Bx (w6.setRow w.heap.size #[.slice a5 k c5, .slice la L.length lc]) w.heap.size 28 #[.slice a5 k c5, .slice la L.length lc]) := hide (setRow_heap _ _ _ _ _ _ (unhide HX2))
        have XB : Hid (Below w.heap.size w (w6.setRow w.heap.size #[.slice a5 k c5, .slice la L.length lc])) := hide (below_rowS (unhide HB6) (Nat.le_refl _) _)
        have hks := kept_row w6 w.heap.size #[.slice a5 k c5, .slice la L.length lc]
        have XI : Hid (OwnB (w6.setRow w.heap.size #[.slice a5 k c5, .slice la L.length lc]) w.heap.size (.slice a5 k c5) (l.take k)) := hide ((unhide HR6).2.2.1.keep hks (fun q e e2 => unhide HV2 (by rw [e, e2])))
        have XL : Hid (OwnR (w6.setRow w.heap.size #[.slice a5 k c5, .slice la L.length lc]) w.heap.size (.slice la L.length lc) L) := hide ((unhide HR6).2.2.2.1.keep hks (fun q e e2 => by
          subst e2
          rcases (unhide HR6).2.2.2.1.2 with ⟨h1, _⟩ | ⟨g', cap, cur, hv, hbg, hh, r⟩
          · rw [h1] at e; cases e
          · rw [hv] at e
            injection e with e
            subst e
            exact ty_ne hh (unhide HX2) (by decide) rfl))
        have XK : Hid (RkOk (w6.setRow w.heap.size #[.slice a5 k c5, .slice la L.length lc]) L) := hide (fun x hx => ⟨((unhide HR6).2.2.2.2 x hx).1.keep hks (fun b' off' e hl e2 => ((unhide HR6).2.2.2.2 x hx).1.notBx (unhide HX2) (slice_ni _ _ _) (slice_ni _ _ _) b' off' e hl e2), ((unhide HR6).2.2.2.2 x hx).2⟩)
        clear hks
        go_wp2_with (refine wpList_store_row rfl 28 _ _ rfl w.heap.size #[.slice a5 k c5, .slice la L.length lc] rfl rfl 28 #[.slice none 0 0, .slice none 0 0] (unhide HX2) (by kernel_rfl) rfl (by simp [Value.oneCell']) ?_)
        exact bodyPost_ret (v := .tuple #[.agg #[.slice a5 k c5, .slice la L.length lc], .bool true]) (results_stS rfl _ _ w.heap.size _ _ _ rfl rfl (unhide X2)) rfl ⟨unhide XB, Or.inr ⟨_, _, k, K, L, rfl, unhide HOS, unhide XI, unhide XL, unhide XK, (unhide HOK).2.2.2, (unhide HOK).2.1, hk⟩⟩
end Go.Proofs.Ytmhilffaeighnaa
