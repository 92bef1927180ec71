/-
  Texts of contracts and plain lemmas, one behind another; each says at its head what it holds.
-/
import Derived.Test.YtibgfdjopikafaaGreatDoorJRG
/-
  The document's cursor over a module's file: a class: as the plain one. Conditions: none but that the cursor is one.
-/
namespace Go.Proofs.YtibgfdjopikafaaGreatDoor
open Go.RowKit
set_option maxRecDepth 20000
set_option linter.unusedVariables false
set_option linter.unusedSimpArgs false

/-- The cursor within a function of its own: its result's box, and all else that stays. -/
structure K0 (w wx : World) (g : Nat) (ao : Option Addr) (cap : Nat) (l : List UInt8) (s : Cs) (t : TypeId) (z : Array Value) : Prop where
  cu : Cu wx g ao cap l s
  gr : w.grownBy wx (some g)
  out : Bx wx w.heap.size t z
  bl : BlkOf (fun b => b < w.heap.size) ao l.length
  pl : g < w.heap.size
  sz : w.heap.size + 2 ≤ wx.heap.size
theorem K0.step {w wx w' : World} {g : Nat} {ao : Option Addr} {cap : Nat} {l : List UInt8} {s s' : Cs} {t : TypeId} {z : Array Value} (h : K0 w wx g ao cap l s t z) (hc : Cu w' g ao cap l s') (hg : wx.grownBy w' (some g)) : K0 w w' g ao cap l s' t z :=
  ⟨hc, grown_trans h.gr hg, h.out.grown hg (fun e => by have := h.pl; injection e with e; omega), h.bl, h.pl, Nat.le_trans h.sz hg.size⟩
theorem K0.below {w wx w' : World} {g : Nat} {ao : Option Addr} {cap : Nat} {l : List UInt8} {s : Cs} {t : TypeId} {z : Array Value} (h : K0 w wx g ao cap l s t z) (hb : Below wx.heap.size wx w') : K0 w w' g ao cap l s t z :=
  ⟨h.cu.below hb, grown_below_trans h.gr hb, h.out.below hb, h.bl, h.pl, Nat.le_trans h.sz hb.size⟩
theorem K0.own {w wx w' : World} {g : Nat} {ao : Option Addr} {cap : Nat} {l : List UInt8} {s : Cs} {q : Nat} {t : TypeId} {z : Array Value} (h : K0 w wx g ao cap l s t z) (hg : wx.grownBy w' (some q)) (hq : w.heap.size < q) : K0 w w' g ao cap l s t z :=
  ⟨h.cu.far hg (by have := h.pl; omega) (h.bl.mono (fun b hb => by omega)), grownBy_more h.gr hg (fun x e => Or.inl (by injection e with e; omega)), h.out.grown hg (fun e => by injection e with e; omega), h.bl, h.pl, Nat.le_trans h.sz hg.size⟩
theorem K0.row {w wx w' : World} {g : Nat} {ao : Option Addr} {cap : Nat} {l : List UInt8} {s : Cs} {t : TypeId} {z : Array Value} {v : Value} (h : K0 w wx g ao cap l s t z) (hg : wx.grownBy w' v.ownBlock) (hv : ∀ q, v.ownBlock = some q → w.heap.size < q) : K0 w w' g ao cap l s t z := by
  cases e : v.ownBlock with
  | none => rw [e] at hg; exact h.below ⟨hg.os, hg.tape, hg.output, hg.size, fun q hq => hg.block q hq (by simp)⟩
  | some q => rw [e] at hg; exact h.own hg (hv q e)
theorem cu_byteE {W : World} {g : Nat} {ao : Option Addr} {cap : Nat} {l : List UInt8} {s s' : Cs} {n : Nat} (h : Cu W g ao cap l s) (e : byS l s = (n, s')) : Calls Tryz.prog 82 #[.pointer (some ⟨g, 0, none⟩)] W (CuP W g ao cap l (.int .i64 (n : Int)) s') := by
  have := cu_byte h
  rw [e] at this
  exact this
theorem cu_countE {W : World} {g : Nat} {ao : Option Addr} {cap : Nat} {l : List UInt8} {s s' : Cs} {n most : Nat} (h : Cu W g ao cap l s) (e : coS most l s = (n, s')) : Calls Tryz.prog 79 #[.pointer (some ⟨g, 0, none⟩), .int .i64 (most : Int)] W (CuP W g ao cap l (.int .i64 (n : Int)) s') := by
  have := cu_count h most
  rw [e] at this
  exact this
theorem cu_nameE {W : World} {g : Nat} {ao : Option Addr} {cap : Nat} {l : List UInt8} {s s' : Cs} {x : List UInt8} (h : Cu W g ao cap l s) (e : naS l s = (x, s')) : Calls Tryz.prog 78 #[.pointer (some ⟨g, 0, none⟩)] W (CuP W g ao cap l (.string ⟨x.toArray⟩) s') := by
  have := cu_name h
  rw [e] at this
  exact this
theorem cu_pieceE {W : World} {g : Nat} {ao : Option Addr} {cap : Nat} {l : List UInt8} {s s' : Cs} {x : List UInt8} (h : Cu W g ao cap l s) (e : loS l s = (x, s')) : Calls Tryz.prog 84 #[.pointer (some ⟨g, 0, none⟩)] W (CuB W g ao cap l x s') := by
  have := cu_piece h
  rw [e] at this
  exact this
theorem rep0 {α β : Type} {f : List UInt8 → Cs → α × Cs} {m : Nat} {l : List UInt8} {s : Cs} {r : List α × Cs} {c : β → α} (h : repS f m l s = r) : ((([] : List β).map c) ++ (repS f (m - 0) l s).1, (repS f (m - 0) l s).2) = r := by rw [Nat.sub_zero, h]; rfl
theorem rep_step {α : Type} {f : List UInt8 → Cs → α × Cs} {r : Nat} {l : List UInt8} {st s7 : Cs} {x : α} (A : List α) (h0 : st.why = 0) (h : f l st = (x, s7)) : (A ++ (repS f (r + 1) l st).1, (repS f (r + 1) l st).2) = ((A ++ [x]) ++ (repS f r l s7).1, (repS f r l s7).2) := by
  have e : repS f (r + 1) l st = (x :: (repS f r l s7).1, (repS f r l s7).2) := by
    show (if st.why ≠ 0 then _ else _) = _
    rw [if_neg (by rw [h0]; simp), h]
  rw [e, List.append_assoc]
  rfl
theorem rep_stop {α : Type} {f : List UInt8 → Cs → α × Cs} {r : Nat} {l : List UInt8} {st : Cs} (A : List α) (h0 : st.why ≠ 0) : (A ++ (repS f r l st).1, (repS f r l st).2) = (A, st) := by
  cases r with
  | zero => show (A ++ [], st) = _; rw [List.append_nil]
  | succ r =>
    have e : repS f (r + 1) l st = ([], st) := by show (if st.why ≠ 0 then _ else _) = _; rw [if_pos h0]
    rw [e, List.append_nil]
theorem rep_done {α : Type} {f : List UInt8 → Cs → α × Cs} {l : List UInt8} {st : Cs} (A : List α) : (A ++ (repS f 0 l st).1, (repS f 0 l st).2) = (A, st) := by show (A ++ [], st) = _; rw [List.append_nil]
/-- What reading a class comes to. -/
def CuC (W : World) (g : Nat) (ao : Option Addr) (cap : Nat) (l : List UInt8) (x : ClC) (s : Cs) (e : Ending) (W' : World) : Prop := ∃ y : Cl, e = .returned (.agg #[.string y.nm, .int .i64 y.par, .slice y.fo y.fs.length y.fc]) ∧ clC y = x ∧ clN.ok W' y ∧ clN.all (fun b => W.heap.size ≤ b) y ∧ Cu W' g ao cap l s ∧ W.grownBy W' (some g)
set_option maxHeartbeats 16000000 in
theorem cu_class {w : World} {g : Nat} {ao : Option Addr} {cap : Nat} {l : List UInt8} {s : Cs} (h : Cu w g ao cap l s) : Calls Tryz.prog 80 #[.pointer (some ⟨g, 0, none⟩)] w (CuC w g ao cap l (clS l s).1 (clS l s).2) := by
  obtain ⟨in1, hi1, hz10, hz11, hz12⟩ := info_parts infoFd
  obtain ⟨⟨nm, s1⟩, h1⟩ : ∃ r, naS l s = r := ⟨_, rfl⟩
  obtain ⟨⟨n, s2⟩, h2⟩ : ∃ r, byS l s1 = r := ⟨_, rfl⟩
  obtain ⟨⟨m, s3⟩, h3⟩ : ∃ r, coS 32 l s2 = r := ⟨_, rfl⟩
  obtain ⟨⟨fs, s4⟩, h4⟩ : ∃ r, repS fdS m l s3 = r := ⟨_, rfl⟩
  have e : clS l s = ((nm, parI n, fs), s4) := by simp only [clS, h1, h2, h3, h4]
  rw [e]
  show Calls _ _ _ _ (CuC w g ao cap l (nm, parI n, fs) s4)
  have hnl := naS_len l s
  have hn8 := byS_lt l s1
  have hm8 := coS_lt 32 l s2
  rw [h1] at hnl
  rw [h2] at hn8
  rw [h3] at hm8
  have hnb : n < 256 := hn8
  have HNML : Hid (nm.length ≤ 255) := hide hnl
  have HN8 := hide hnb
  have HM1 : Hid (m ≤ 32) := hide hm8.2
  have HE1 := hide h1
  have HE2 := hide h2
  have HE3 := hide h3
  have HR1 := hide h4
  clear e hnl hn8 hm8 h1 h2 h3 h4 hnb
  have al1 := (Below.refl w.heap.size w).alloc (Nat.le_refl _) (.cells #[.string ⟨#[]⟩, .int .i64 0, .slice none 0 0] 80)
  have al := al1.alloc (by simp) (.cells #[.string ⟨#[]⟩, .int .i64 0, .slice none 0 0] 80)
  have n1 := heap_alloc_new w (.cells #[.string ⟨#[]⟩, .int .i64 0, .slice none 0 0] 80)
  have n2 := heap_alloc_new (w.alloc (.cells #[.string ⟨#[]⟩, .int .i64 0, .slice none 0 0] 80)) (.cells #[.string ⟨#[]⟩, .int .i64 0, .slice none 0 0] 80)
  rw [World.size_alloc] at n2
  have HC : Hid (K0 w ((w.alloc (.cells #[.string ⟨#[]⟩, .int .i64 0, .slice none 0 0] 80)).alloc (.cells #[.string ⟨#[]⟩, .int .i64 0, .slice none 0 0] 80)) g ao cap l s 80 #[.string ⟨#[]⟩, .int .i64 0, .slice none 0 0]) := hide ⟨h.below al, grown_of_below al _, (((Below.refl _ _).alloc (Nat.le_refl _) _).block w.heap.size (by simp)).trans n1, bat_lt h.bts, h.lt, by simp⟩
  have HB : Hid (Bx ((w.alloc (.cells #[.string ⟨#[]⟩, .int .i64 0, .slice none 0 0] 80)).alloc (.cells #[.string ⟨#[]⟩, .int .i64 0, .slice none 0 0] 80)) (w.heap.size + 1) 80 #[.string ⟨#[]⟩, .int .i64 0, .slice none 0 0]) := hide n2
  have hgl : g < w.heap.size := h.lt
  have mixed := mixedT
  clear al1 al n1 n2 h
  go_enter Tryz.func80, Tryz.ntmps80
  go_upto_region 2 with fail
  generalize ((w.alloc (.cells #[.string ⟨#[]⟩, .int .i64 0, .slice none 0 0] 80)).alloc (.cells #[.string ⟨#[]⟩, .int .i64 0, .slice none 0 0] 80)) = W1 at HC HB ⊢
  obtain ⟨gc, HGE⟩ : ∃ gc, w.heap.size + 1 = gc := ⟨_, rfl⟩
  rw [HGE] at HB ⊢
  have HGC : Hid (w.heap.size < gc ∧ gc < W1.heap.size) := hide ⟨by omega, (unhide HB).lt⟩
  clear HGE
  have HK := hide (cu_nameE (unhide HC).cu (unhide HE1))
  go_wp2_with fail
  refine (unhide HK).mono ?_
  rintro e W2 ⟨rfl, hc, hg⟩
  have HC2 := hide ((unhide HC).step hc hg)
  have HB2 := hide (box_step (unhide HB) hg (by have := (unhide HGC).1; omega))
  have HGC2 : Hid (w.heap.size < gc ∧ gc < W2.heap.size) := hide ⟨(unhide HGC).1, Nat.lt_of_lt_of_le (unhide HGC).2 hg.size⟩
  clear hc hg HK HC HB
  have HGC := HGC2
  clear HGC2
  have q2 := (unhide HB2).c 0 rfl
  have f2 := (unhide HB2).f 0
  go_upto_region 3 with fail
  have hgs := grownBy_set W2 gc 0 (.string ⟨nm.toArray⟩)
  have HC3 := hide ((unhide HC2).own hgs (by have := unhide HGC; omega))
  have HB3 : Hid (Bx (W2.setCell ⟨gc, 0, none⟩ (.string ⟨nm.toArray⟩)) gc 80 #[.string ⟨nm.toArray⟩, .int .i64 0, .slice none 0 0]) := hide ((unhide HB2).set 0 _ rfl)
  have HGC3 : Hid (w.heap.size < gc ∧ gc < (W2.setCell ⟨gc, 0, none⟩ (.string ⟨nm.toArray⟩)).heap.size) := hide ⟨(unhide HGC).1, (unhide HB3).lt⟩
  clear q2 f2 hgs HC2 HB2 HGC
  have HGC := HGC3
  clear HGC3
  generalize W2.setCell ⟨gc, 0, none⟩ (.string ⟨nm.toArray⟩) = W3 at HC3 HB3 HGC ⊢
  have HK := hide (cu_byteE (unhide HC3).cu (unhide HE2))
  go_wp2_with fail
  refine (unhide HK).mono ?_
  rintro e W4 ⟨rfl, hc, hg⟩
  have HC4 := hide ((unhide HC3).step hc hg)
  have HB4 := hide (box_step (unhide HB3) hg (by have := (unhide HGC).1; omega))
  have HGC4 : Hid (w.heap.size < gc ∧ gc < W4.heap.size) := hide ⟨(unhide HGC).1, Nat.lt_of_lt_of_le (unhide HGC).2 hg.size⟩
  clear hc hg HK HC3 HB3
  have HGC := HGC4
  clear HGC4
  have q2 := (unhide HB4).c 1 rfl
  have f2 := (unhide HB4).f 1
  go_upto_region 4 with fail
  have hgs := grownBy_set W4 gc 1 (.int .i64 (n : Int))
  have HC5 := hide ((unhide HC4).own hgs (by have := unhide HGC; omega))
  have HB5 : Hid (Bx (W4.setCell ⟨gc, 1, none⟩ (.int .i64 (n : Int))) gc 80 #[.string ⟨nm.toArray⟩, .int .i64 (n : Int), .slice none 0 0]) := hide ((unhide HB4).set 1 _ rfl)
  have HGC5 : Hid (w.heap.size < gc ∧ gc < (W4.setCell ⟨gc, 1, none⟩ (.int .i64 (n : Int))).heap.size) := hide ⟨(unhide HGC).1, (unhide HB5).lt⟩
  clear q2 f2 hgs HC4 HB4 HGC
  have HGC := HGC5
  clear HGC5
  generalize W4.setCell ⟨gc, 1, none⟩ (.int .i64 (n : Int)) = W5 at HC5 HB5 HGC ⊢
  have c1 := (unhide HB5).c 1 rfl
  have f1 := (unhide HB5).f 1
  have hn8 := unhide HN8
  go_upto_if 15 with fail
  go_cut [] (fun wx => Hid (K0 w wx g ao cap l s2 80 #[.string ⟨#[]⟩, .int .i64 0, .slice none 0 0]) ∧ Hid (Bx wx gc 80 #[.string ⟨nm.toArray⟩, .int .i64 (parI n), .slice none 0 0]) ∧ Hid (w.heap.size < gc ∧ gc < wx.heap.size))
  case first =>
    by_cases h5 : n = 255
    · have t0 : ((n : Int) == 255) = true := beq_t (by omega)
      have HP : Hid (parI n = -1) := hide (by unfold parI; rw [if_pos h5])
      clear h5
      go_wp2_with fail
      go_meet
      exact ⟨hide ((unhide HC5).own (grownBy_set _ gc 1 _) (by have := unhide HGC; omega)), hide (by rw [unhide HP]; exact (unhide HB5).set 1 (.int .i64 (-1)) rfl), hide ⟨(unhide HGC).1, by have := (unhide HGC).2; simpa [World.setCell] using this⟩⟩
    · have t0 : ((n : Int) == 255) = false := beq_f (by omega)
      have HP : Hid (parI n = (n : Int)) := hide (by unfold parI; rw [if_neg h5])
      clear h5
      go_wp2_with fail
      go_meet
      exact ⟨HC5, hide (by rw [unhide HP]; exact unhide HB5), HGC⟩
  case rest =>
  clear HC5 HB5 HGC c1 f1
  obtain ⟨HC6, HB6, HGC⟩ := hcut
  rename World => w6
  have HK := hide (cu_countE (unhide HC6).cu (unhide HE3))
  go_wp2_with fail
  refine (unhide HK).mono ?_
  rintro e W7 ⟨rfl, hc, hg⟩
  have HC7 := hide ((unhide HC6).step hc hg)
  have HB7 := hide (box_step (unhide HB6) hg (by have := (unhide HGC).1; omega))
  have HGC7 : Hid (w.heap.size < gc ∧ gc < W7.heap.size) := hide ⟨(unhide HGC).1, Nat.lt_of_lt_of_le (unhide HGC).2 hg.size⟩
  clear hc hg HK HC6 HB6
  have HGC := HGC7
  clear HGC7
  obtain ⟨base, HBS⟩ : ∃ base, base = W7.heap.size := ⟨_, rfl⟩
  have HLO : Hid (w.heap.size < gc ∧ gc < base) := hide ⟨(unhide HGC).1, by have := (unhide HGC).2; omega⟩
  have HL7 : Hid (base ≤ W7.heap.size) := hide (by omega)
  clear HBS
  go_wp2_with fail
  go_loopw [5] (fun i wr => ∃ (q : Nat) (M : List Fl) (st : Cs) (v : Value), q ≤ m ∧ i = .int .i64 (q : Int) ∧ Hid (K0 w wr g ao cap l st 80 #[.string ⟨#[]⟩, .int .i64 0, .slice none 0 0]) ∧ Hid (Bx wr gc 80 #[.string ⟨nm.toArray⟩, .int .i64 (parI n), v]) ∧ Hid (Bld flN wr base v M) ∧ Hid (base ≤ wr.heap.size) ∧ Hid (M.length = q) ∧ Hid ((M.map flC ++ (repS fdS (m - q) l st).1, (repS fdS (m - q) l st).2) = (fs, s4))) (fun i _ => m - (intOf i).toNat)
  case atStart => exact ⟨0, [], s3, .slice none 0 0, by omega, rfl, HC7, HB7, hide (Bld.nil _ _ _), HL7, hide rfl, hide (rep0 (unhide HR1))⟩
  case round =>
    clear HC7 HB7 HL7
    obtain ⟨qq1, M, st, v, hqq1, rfl, HC101, HB101, HD101, HL101, HML, HRP⟩ := hrel
    have c3 := (unhide HC101).cu.bx.c 3 rfl
    go_upto_region 8 with fail
    go_cut [28] (fun c wx => ∃ p : Bool, c = .bool p ∧ Hid (p = decide (qq1 < m ∧ st.why = 0)) ∧ Hid (K0 w wx g ao cap l st 80 #[.string ⟨#[]⟩, .int .i64 0, .slice none 0 0]) ∧ Hid (Bx wx gc 80 #[.string ⟨nm.toArray⟩, .int .i64 (parI n), v]) ∧ Hid (Bld flN wx base v M) ∧ Hid (base ≤ wx.heap.size))
    case first =>
      by_cases hlt : qq1 < m
      · have i1 : ((qq1 : Nat) : Int) < ((m : Nat) : Int) := by omega
        by_cases h0 : st.why = 0
        · have t0 : (st.why == 0) = true := beq_t h0
          have HP : Hid (true = decide (qq1 < m ∧ st.why = 0)) := hide (by symm; rw [decide_eq_true_iff]; exact ⟨hlt, h0⟩)
          clear h0 hlt
          go_wp2
          go_meet
          exact ⟨true, rfl, HP, HC101, HB101, HD101, HL101⟩
        · have t0 : (st.why == 0) = false := beq_f h0
          have HP : Hid (false = decide (qq1 < m ∧ st.why = 0)) := hide (by symm; rw [decide_eq_false_iff_not]; rintro ⟨_, h⟩; exact h0 h)
          clear h0 hlt
          go_wp2
          go_meet
          exact ⟨false, rfl, HP, HC101, HB101, HD101, HL101⟩
      · have i1 : ¬ ((qq1 : Nat) : Int) < ((m : Nat) : Int) := by omega
        have HP : Hid (false = decide (qq1 < m ∧ st.why = 0)) := hide (by symm; rw [decide_eq_false_iff_not]; rintro ⟨h, _⟩; exact hlt h)
        clear hlt
        go_wp2
        go_meet
        exact ⟨false, rfl, HP, HC101, HB101, HD101, HL101⟩
    case rest =>
    clear HC101 HB101 HD101 HL101 c3
    obtain ⟨p, rfl, HP, HC102, HB102, HD102, HL102⟩ := hcut
    rename World => wr
    cases p with
    | true =>
      obtain ⟨hlt, h0⟩ := of_decide_eq_true (unhide HP).symm
      have HW0 := hide h0
      have i1 : ((qq1 : Nat) : Int) < ((m : Nat) : Int) := by omega
      obtain ⟨r, HRE⟩ : ∃ r, Hid (m - qq1 = r + 1) := ⟨m - qq1 - 1, hide (by omega)⟩
      obtain ⟨va, vc, rfl⟩ := (unhide HD102).slice
      have HVL : Hid (∀ x, (Value.slice va M.length vc).ownBlock = some x → base ≤ x) := hide (fun x e => (World.ownsRow.lt (unhide HD102).own x e).1)
      have hmb := unhide HM1
      clear h0 HP
      rw [unhide HRE] at HRP
      obtain ⟨⟨nx, s6⟩, hna⟩ : ∃ r, naS l st = r := ⟨_, rfl⟩
      have hnl := naS_len l st
      rw [hna] at hnl
      have HNA := hide hna
      have HNL : Hid (nx.length ≤ 255) := hide hnl
      have HK := hide (cu_nameE (unhide HC102).cu hna)
      clear hna hnl
      go_wp2_with fail
      refine (unhide HK).mono ?_
      rintro e W103 ⟨rfl, hc, hg⟩
      have HC103 := hide ((unhide HC102).step hc hg)
      have HB103 := hide (box_step (unhide HB102) hg (by have := (unhide HGC); omega))
      have HD103 := hide ((unhide HD102).box hg (by have := (unhide HLO); omega))
      have HL103 : Hid (base ≤ W103.heap.size) := hide (Nat.le_trans (unhide HL102) hg.size)
      clear hc hg HK HC102 HB102 HD102 HL102
      go_upto_region 11 with fail
      refine wp_region_held_drew (S := fun _ => True) mixed trivial (fun hS => ?_)
      have hdw : Below W103.heap.size W103 W103.drew := Below.drew (Below.refl _ _)
      have HC104 := hide ((unhide HC103).below hdw)
      have HB104 := hide ((unhide HB103).below hdw)
      have HD104 := hide ((unhide HD103).below hdw)
      have HL104 : Hid (base ≤ W103.drew.heap.size) := hide (unhide HL103)
      clear hdw HC103 HB103 HD103 HL103
      generalize W103.drew = Wd at HC104 HB104 HD104 HL104 ⊢
      refine wpAnyH_take (i := 0) (v := .pointer (some ⟨gc, 2, none⟩)) rfl (by kernel_rfl) (by kernel_rfl) (by kernel_rfl) (fun _ _ _ h => h) (Or.inl ⟨by rfl, fun W _ => by go_simp⟩) hS ?_
      go_simp
      refine wpAnyH_take (i := 2) (v := .string ⟨nx.toArray⟩) rfl (by kernel_rfl) (by kernel_rfl) (by kernel_rfl) (fun _ _ _ h => h) (Or.inl ⟨by rfl, fun W _ => by go_simp⟩) hS ?_
      go_simp
      refine wpAnyH_take (i := 3) (v := .pointer (some ⟨g, 0, none⟩)) rfl (by kernel_rfl) (by kernel_rfl) (by kernel_rfl) (fun _ _ _ h => h) (Or.inl ⟨by rfl, fun W _ => by go_simp⟩) hS ?_
      go_simp
      refine wpAnyH_ready (rs := [1, 4]) (by kernel_rfl) (by simp) ?_
      refine AllReadyH.cons rfl (fun KK hK => ?_) ?_
      · have q2 := (unhide HB104).c 2 rfl
        go_simp
        refine hK.out _ _ trivial (fun hS => ?_)
        clear hK KK q2
        refine wpAnyH_ready (rs := [4]) (by kernel_rfl) (by simp) ?_
        refine AllReadyH.cons rfl (fun KK hK => ?_) AllReadyH.nil
        go_simp
        obtain ⟨⟨t, s7⟩, hby⟩ : ∃ r, byS l s6 = r := ⟨_, rfl⟩
        have ht := byS_lt l s6
        rw [hby] at ht
        have htb : t < 256 := ht
        have HTL := hide htb
        have hw8 : IntKind.u8.wrap (t : Int) = (t : Int) := by simp [IntKind.wrap, IntKind.bits, IntKind.signed]; omega
        have HFD : Hid (fdS l st = ((nx, t), s7)) := hide (by simp only [fdS]; rw [unhide HNA, hby])
        have HK := hide (cu_byteE (unhide HC104).cu hby)
        refine (unhide HK).mono ?_
        rintro e W106 ⟨rfl, hc, hg⟩
        have HC106 := hide ((unhide HC104).step hc hg)
        have HB106 := hide (box_step (unhide HB104) hg (by have := (unhide HGC); omega))
        have HD106 := hide ((unhide HD104).box hg (by have := (unhide HLO); omega))
        have HL106 : Hid (base ≤ W106.heap.size) := hide (Nat.le_trans (unhide HL104) hg.size)
        refine hK.out _ _ trivial (fun hS => ?_)
        clear hK KK HK hc hg ht hby htb HC104 HB104 HD104 HL104
        refine wpAnyH_take (i := 5) (v := .int .u8 (t : Int)) rfl (by kernel_rfl) (by kernel_rfl) (by kernel_rfl) (fun _ _ _ h => h) (Or.inl ⟨by rfl, fun W _ => by go_simp⟩) hS ?_
        go_simp
        refine wpAnyH_take (i := 6) (v := .agg #[.string ⟨nx.toArray⟩, .int .u8 (t : Int)]) rfl (by kernel_rfl) (by kernel_rfl) (by kernel_rfl) (fun _ _ _ h => h) (Or.inl ⟨by rfl, fun W _ => by go_simp⟩) hS ?_
        go_simp
        refine wpAnyH_ready (rs := [7]) (by kernel_rfl) (by simp) ?_
        refine AllReadyH.cons rfl (fun KK hK => ?_) AllReadyH.nil
        go_simp
        have HBA107 := hide ((unhide HB106).below ((Below.refl W106.heap.size W106).alloc (Nat.le_refl _) (.cells #[.string ⟨nx.toArray⟩, .int .u8 (t : Int)] 83)))
        refine hK.out _ _ trivial (fun hS => ?_)
        clear hK KK
        refine wpAnyH_ready (rs := [8]) (by kernel_rfl) (by simp) ?_
        refine AllReadyH.cons rfl (fun KK hK => ?_) AllReadyH.nil
        refine step_append_lies _ (by rfl) _ _ 78 (by rfl) base 83 in1 _ 2 24 Tryz.underlying78 hi1 hz10 hz11 hz12 rfl (by omega) (.slice va M.length vc) M.length (vals flN M) (by rfl) (rowBelow (unhide HD106).own ((Below.refl _ _).alloc (Nat.le_refl _) _)) ⟨W106.heap.size, 0, none⟩ 1 1 (flN.cells (⟨⟨nx.toArray⟩, t⟩ : Fl)) (by rfl) (by rfl) (World.news_of_block (cs := #[.string ⟨nx.toArray⟩, .int .u8 (t : Int)]) (t := 83) (fr := (0, 0)) (heap_alloc_new W106 _)) (fun u hu => by simp [flN] at hu; rcases hu with rfl | rfl <;> rfl) (by omega) (by have := unhide HML; have := unhide HM1; unfold maxLen; omega) (by have := unhide HML; have := unhide HM1; omega) (by rw [World.size_alloc]; have := unhide HL106; omega) (W106.heap.size + 1) (by simp) ?_
        intro g3 cap3 W108 hown hgrow hat hlt3
        have al : Below W106.heap.size W106 (W106.alloc (.cells #[.string ⟨nx.toArray⟩, .int .u8 (t : Int)] 83)) := (Below.refl _ _).alloc (Nat.le_refl _) _
        have HD108 : Hid (Bld flN W108 base (.slice (some ⟨g3, 0, none⟩) (M.length + 1) cap3) (M ++ [(⟨⟨nx.toArray⟩, t⟩ : Fl)])) := hide ((unhide HD106).snoc (y := (⟨⟨nx.toArray⟩, t⟩ : Fl)) ⟨by have := unhide HNL; show nx.toArray.size ≤ _; simp; omega, unhide HTL⟩ trivial (fun _ _ => trivial) hown hgrow hat)
        have HC108 := hide (((unhide HC106).below al).row hgrow (fun x e => by have := unhide HVL x e; have := unhide HLO; omega))
        have HB108 := hide (((unhide HB106).below al).grown hgrow (fun e => by have := unhide HVL gc e; have := unhide HLO; omega))
        have HL108 : Hid (base ≤ W108.heap.size) := hide (by have := hgrow.size; rw [World.size_alloc] at this; have := unhide HL106; omega)
        refine hK.out _ _ trivial (fun hS => ?_)
        clear hK KK hown hgrow hat hlt3 al HC106 HB106 HD106 HL106
        refine wpAnyH_take (i := 9) (v := .pointer (some ⟨gc, 2, none⟩)) rfl (by kernel_rfl) (by kernel_rfl) (by kernel_rfl) (fun _ _ _ h => h) (Or.inl ⟨by rfl, fun W _ => by go_simp⟩) hS ?_
        go_simp
        refine wpAnyH_ready (rs := [10]) (by kernel_rfl) (by simp) ?_
        refine AllReadyH.cons rfl (fun KK hK => ?_) AllReadyH.nil
        have q2 := (unhide HB108).c 2 rfl
        have f2 := (unhide HB108).f 2
        go_simp
        have hgs := grownBy_set W108 gc 2 (.slice (some ⟨g3, 0, none⟩) (M.length + 1) cap3)
        have HCn := hide ((unhide HC108).own hgs (by have := (unhide HLO); omega))
        have HBn : Hid (Bx (W108.setCell ⟨gc, 2, none⟩ (.slice (some ⟨g3, 0, none⟩) (M.length + 1) cap3)) gc 80 #[.string ⟨nm.toArray⟩, .int .i64 (parI n), .slice (some ⟨g3, 0, none⟩) (M.length + 1) cap3]) := hide ((unhide HB108).set 2 _ rfl)
        have HDn := hide ((unhide HD108).box hgs (by have := unhide HLO; omega))
        have HLn : Hid (base ≤ (W108.setCell ⟨gc, 2, none⟩ (.slice (some ⟨g3, 0, none⟩) (M.length + 1) cap3)).heap.size) := hide (Nat.le_trans (unhide HL108) hgs.size)
        have HMn : Hid ((M ++ [(⟨⟨nx.toArray⟩, t⟩ : Fl)]).length = qq1 + 1) := hide (by rw [List.length_append, unhide HML]; rfl)
        have HRn : Hid (((M ++ [(⟨⟨nx.toArray⟩, t⟩ : Fl)]).map flC ++ (repS fdS (m - (qq1 + 1)) l s7).1, (repS fdS (m - (qq1 + 1)) l s7).2) = (fs, s4)) := hide (by
          rw [← unhide HRP, rep_step (M.map flC) (unhide HW0) (unhide HFD), show m - (qq1 + 1) = r by have := unhide HRE; omega, List.map_append, List.map_cons, List.map_nil, fl_of])
        clear q2 f2 hgs HC108 HB108 HD108 HL108 HRP HML
        refine hK.out _ _ trivial (fun hS => ?_)
        clear hK KK hS
        refine wpAnyH_done (by kernel_rfl) ?_ _
        go_wp2
        go_roundw
        case rel => exact ⟨qq1 + 1, _, s7, _, by omega, by go_num, HCn, HBn, HDn, HLn, HMn, HRn⟩
        case measure => simp [intOf]; omega
      · refine AllReadyH.cons rfl (fun KK hK => ?_) AllReadyH.nil
        go_simp
        obtain ⟨⟨t, s7⟩, hby⟩ : ∃ r, byS l s6 = r := ⟨_, rfl⟩
        have ht := byS_lt l s6
        rw [hby] at ht
        have htb : t < 256 := ht
        have HTL := hide htb
        have hw8 : IntKind.u8.wrap (t : Int) = (t : Int) := by simp [IntKind.wrap, IntKind.bits, IntKind.signed]; omega
        have HFD : Hid (fdS l st = ((nx, t), s7)) := hide (by simp only [fdS]; rw [unhide HNA, hby])
        have HK := hide (cu_byteE (unhide HC104).cu hby)
        refine (unhide HK).mono ?_
        rintro e W109 ⟨rfl, hc, hg⟩
        have HC109 := hide ((unhide HC104).step hc hg)
        have HB109 := hide (box_step (unhide HB104) hg (by have := (unhide HGC); omega))
        have HD109 := hide ((unhide HD104).box hg (by have := (unhide HLO); omega))
        have HL109 : Hid (base ≤ W109.heap.size) := hide (Nat.le_trans (unhide HL104) hg.size)
        refine hK.out _ _ trivial (fun hS => ?_)
        clear hK KK HK hc hg ht hby htb HC104 HB104 HD104 HL104
        refine wpAnyH_take (i := 5) (v := .int .u8 (t : Int)) rfl (by kernel_rfl) (by kernel_rfl) (by kernel_rfl) (fun _ _ _ h => h) (Or.inl ⟨by rfl, fun W _ => by go_simp⟩) hS ?_
        go_simp
        refine wpAnyH_take (i := 6) (v := .agg #[.string ⟨nx.toArray⟩, .int .u8 (t : Int)]) rfl (by kernel_rfl) (by kernel_rfl) (by kernel_rfl) (fun _ _ _ h => h) (Or.inl ⟨by rfl, fun W _ => by go_simp⟩) hS ?_
        go_simp
        refine wpAnyH_ready (rs := [1, 7]) (by kernel_rfl) (by simp) ?_
        refine AllReadyH.cons rfl (fun KK hK => ?_) ?_
        · have q2 := (unhide HB109).c 2 rfl
          go_simp
          refine hK.out _ _ trivial (fun hS => ?_)
          clear hK KK q2
          refine wpAnyH_ready (rs := [7]) (by kernel_rfl) (by simp) ?_
          refine AllReadyH.cons rfl (fun KK hK => ?_) AllReadyH.nil
          go_simp
          have HBA111 := hide ((unhide HB109).below ((Below.refl W109.heap.size W109).alloc (Nat.le_refl _) (.cells #[.string ⟨nx.toArray⟩, .int .u8 (t : Int)] 83)))
          refine hK.out _ _ trivial (fun hS => ?_)
          clear hK KK
          refine wpAnyH_ready (rs := [8]) (by kernel_rfl) (by simp) ?_
          refine AllReadyH.cons rfl (fun KK hK => ?_) AllReadyH.nil
          refine step_append_lies _ (by rfl) _ _ 78 (by rfl) base 83 in1 _ 2 24 Tryz.underlying78 hi1 hz10 hz11 hz12 rfl (by omega) (.slice va M.length vc) M.length (vals flN M) (by rfl) (rowBelow (unhide HD109).own ((Below.refl _ _).alloc (Nat.le_refl _) _)) ⟨W109.heap.size, 0, none⟩ 1 1 (flN.cells (⟨⟨nx.toArray⟩, t⟩ : Fl)) (by rfl) (by rfl) (World.news_of_block (cs := #[.string ⟨nx.toArray⟩, .int .u8 (t : Int)]) (t := 83) (fr := (0, 0)) (heap_alloc_new W109 _)) (fun u hu => by simp [flN] at hu; rcases hu with rfl | rfl <;> rfl) (by omega) (by have := unhide HML; have := unhide HM1; unfold maxLen; omega) (by have := unhide HML; have := unhide HM1; omega) (by rw [World.size_alloc]; have := unhide HL109; omega) (W109.heap.size + 1) (by simp) ?_
          intro g3 cap3 W112 hown hgrow hat hlt3
          have al : Below W109.heap.size W109 (W109.alloc (.cells #[.string ⟨nx.toArray⟩, .int .u8 (t : Int)] 83)) := (Below.refl _ _).alloc (Nat.le_refl _) _
          have HD112 : Hid (Bld flN W112 base (.slice (some ⟨g3, 0, none⟩) (M.length + 1) cap3) (M ++ [(⟨⟨nx.toArray⟩, t⟩ : Fl)])) := hide ((unhide HD109).snoc (y := (⟨⟨nx.toArray⟩, t⟩ : Fl)) ⟨by have := unhide HNL; show nx.toArray.size ≤ _; simp; omega, unhide HTL⟩ trivial (fun _ _ => trivial) hown hgrow hat)
          have HC112 := hide (((unhide HC109).below al).row hgrow (fun x e => by have := unhide HVL x e; have := unhide HLO; omega))
          have HB112 := hide (((unhide HB109).below al).grown hgrow (fun e => by have := unhide HVL gc e; have := unhide HLO; omega))
          have HL112 : Hid (base ≤ W112.heap.size) := hide (by have := hgrow.size; rw [World.size_alloc] at this; have := unhide HL109; omega)
          refine hK.out _ _ trivial (fun hS => ?_)
          clear hK KK hown hgrow hat hlt3 al HC109 HB109 HD109 HL109
          refine wpAnyH_take (i := 9) (v := .pointer (some ⟨gc, 2, none⟩)) rfl (by kernel_rfl) (by kernel_rfl) (by kernel_rfl) (fun _ _ _ h => h) (Or.inl ⟨by rfl, fun W _ => by go_simp⟩) hS ?_
          go_simp
          refine wpAnyH_ready (rs := [10]) (by kernel_rfl) (by simp) ?_
          refine AllReadyH.cons rfl (fun KK hK => ?_) AllReadyH.nil
          have q2 := (unhide HB112).c 2 rfl
          have f2 := (unhide HB112).f 2
          go_simp
          have hgs := grownBy_set W112 gc 2 (.slice (some ⟨g3, 0, none⟩) (M.length + 1) cap3)
          have HCn := hide ((unhide HC112).own hgs (by have := (unhide HLO); omega))
          have HBn : Hid (Bx (W112.setCell ⟨gc, 2, none⟩ (.slice (some ⟨g3, 0, none⟩) (M.length + 1) cap3)) gc 80 #[.string ⟨nm.toArray⟩, .int .i64 (parI n), .slice (some ⟨g3, 0, none⟩) (M.length + 1) cap3]) := hide ((unhide HB112).set 2 _ rfl)
          have HDn := hide ((unhide HD112).box hgs (by have := unhide HLO; omega))
          have HLn : Hid (base ≤ (W112.setCell ⟨gc, 2, none⟩ (.slice (some ⟨g3, 0, none⟩) (M.length + 1) cap3)).heap.size) := hide (Nat.le_trans (unhide HL112) hgs.size)
          have HMn : Hid ((M ++ [(⟨⟨nx.toArray⟩, t⟩ : Fl)]).length = qq1 + 1) := hide (by rw [List.length_append, unhide HML]; rfl)
          have HRn : Hid (((M ++ [(⟨⟨nx.toArray⟩, t⟩ : Fl)]).map flC ++ (repS fdS (m - (qq1 + 1)) l s7).1, (repS fdS (m - (qq1 + 1)) l s7).2) = (fs, s4)) := hide (by
            rw [← unhide HRP, rep_step (M.map flC) (unhide HW0) (unhide HFD), show m - (qq1 + 1) = r by have := unhide HRE; omega, List.map_append, List.map_cons, List.map_nil, fl_of])
          clear q2 f2 hgs HC112 HB112 HD112 HL112 HRP HML
          refine hK.out _ _ trivial (fun hS => ?_)
          clear hK KK hS
          refine wpAnyH_done (by kernel_rfl) ?_ _
          go_wp2
          go_roundw
          case rel => exact ⟨qq1 + 1, _, s7, _, by omega, by go_num, HCn, HBn, HDn, HLn, HMn, HRn⟩
          case measure => simp [intOf]; omega
        · refine AllReadyH.cons rfl (fun KK hK => ?_) AllReadyH.nil
          go_simp
          have HBA113 := hide ((unhide HB109).below ((Below.refl W109.heap.size W109).alloc (Nat.le_refl _) (.cells #[.string ⟨nx.toArray⟩, .int .u8 (t : Int)] 83)))
          refine hK.out _ _ trivial (fun hS => ?_)
          clear hK KK
          refine wpAnyH_ready (rs := [1]) (by kernel_rfl) (by simp) ?_
          refine AllReadyH.cons rfl (fun KK hK => ?_) AllReadyH.nil
          have q2 := (unhide HBA113).c 2 rfl
          go_simp
          refine hK.out _ _ trivial (fun hS => ?_)
          clear hK KK q2
          refine wpAnyH_ready (rs := [8]) (by kernel_rfl) (by simp) ?_
          refine AllReadyH.cons rfl (fun KK hK => ?_) AllReadyH.nil
          refine step_append_lies _ (by rfl) _ _ 78 (by rfl) base 83 in1 _ 2 24 Tryz.underlying78 hi1 hz10 hz11 hz12 rfl (by omega) (.slice va M.length vc) M.length (vals flN M) (by rfl) (rowBelow (unhide HD109).own ((Below.refl _ _).alloc (Nat.le_refl _) _)) ⟨W109.heap.size, 0, none⟩ 1 1 (flN.cells (⟨⟨nx.toArray⟩, t⟩ : Fl)) (by rfl) (by rfl) (World.news_of_block (cs := #[.string ⟨nx.toArray⟩, .int .u8 (t : Int)]) (t := 83) (fr := (0, 0)) (heap_alloc_new W109 _)) (fun u hu => by simp [flN] at hu; rcases hu with rfl | rfl <;> rfl) (by omega) (by have := unhide HML; have := unhide HM1; unfold maxLen; omega) (by have := unhide HML; have := unhide HM1; omega) (by rw [World.size_alloc]; have := unhide HL109; omega) (W109.heap.size + 1) (by simp) ?_
          intro g3 cap3 W115 hown hgrow hat hlt3
          have al : Below W109.heap.size W109 (W109.alloc (.cells #[.string ⟨nx.toArray⟩, .int .u8 (t : Int)] 83)) := (Below.refl _ _).alloc (Nat.le_refl _) _
          have HD115 : Hid (Bld flN W115 base (.slice (some ⟨g3, 0, none⟩) (M.length + 1) cap3) (M ++ [(⟨⟨nx.toArray⟩, t⟩ : Fl)])) := hide ((unhide HD109).snoc (y := (⟨⟨nx.toArray⟩, t⟩ : Fl)) ⟨by have := unhide HNL; show nx.toArray.size ≤ _; simp; omega, unhide HTL⟩ trivial (fun _ _ => trivial) hown hgrow hat)
          have HC115 := hide (((unhide HC109).below al).row hgrow (fun x e => by have := unhide HVL x e; have := unhide HLO; omega))
          have HB115 := hide (((unhide HB109).below al).grown hgrow (fun e => by have := unhide HVL gc e; have := unhide HLO; omega))
          have HL115 : Hid (base ≤ W115.heap.size) := hide (by have := hgrow.size; rw [World.size_alloc] at this; have := unhide HL109; omega)
          refine hK.out _ _ trivial (fun hS => ?_)
          clear hK KK hown hgrow hat hlt3 al HC109 HB109 HD109 HL109
          refine wpAnyH_take (i := 9) (v := .pointer (some ⟨gc, 2, none⟩)) rfl (by kernel_rfl) (by kernel_rfl) (by kernel_rfl) (fun _ _ _ h => h) (Or.inl ⟨by rfl, fun W _ => by go_simp⟩) hS ?_
          go_simp
          refine wpAnyH_ready (rs := [10]) (by kernel_rfl) (by simp) ?_
          refine AllReadyH.cons rfl (fun KK hK => ?_) AllReadyH.nil
          have q2 := (unhide HB115).c 2 rfl
          have f2 := (unhide HB115).f 2
          go_simp
          have hgs := grownBy_set W115 gc 2 (.slice (some ⟨g3, 0, none⟩) (M.length + 1) cap3)
          have HCn := hide ((unhide HC115).own hgs (by have := (unhide HLO); omega))
          have HBn : Hid (Bx (W115.setCell ⟨gc, 2, none⟩ (.slice (some ⟨g3, 0, none⟩) (M.length + 1) cap3)) gc 80 #[.string ⟨nm.toArray⟩, .int .i64 (parI n), .slice (some ⟨g3, 0, none⟩) (M.length + 1) cap3]) := hide ((unhide HB115).set 2 _ rfl)
          have HDn := hide ((unhide HD115).box hgs (by have := unhide HLO; omega))
          have HLn : Hid (base ≤ (W115.setCell ⟨gc, 2, none⟩ (.slice (some ⟨g3, 0, none⟩) (M.length + 1) cap3)).heap.size) := hide (Nat.le_trans (unhide HL115) hgs.size)
          have HMn : Hid ((M ++ [(⟨⟨nx.toArray⟩, t⟩ : Fl)]).length = qq1 + 1) := hide (by rw [List.length_append, unhide HML]; rfl)
          have HRn : Hid (((M ++ [(⟨⟨nx.toArray⟩, t⟩ : Fl)]).map flC ++ (repS fdS (m - (qq1 + 1)) l s7).1, (repS fdS (m - (qq1 + 1)) l s7).2) = (fs, s4)) := hide (by
            rw [← unhide HRP, rep_step (M.map flC) (unhide HW0) (unhide HFD), show m - (qq1 + 1) = r by have := unhide HRE; omega, List.map_append, List.map_cons, List.map_nil, fl_of])
          clear q2 f2 hgs HC115 HB115 HD115 HL115 HRP HML
          refine hK.out _ _ trivial (fun hS => ?_)
          clear hK KK hS
          refine wpAnyH_done (by kernel_rfl) ?_ _
          go_wp2
          go_roundw
          case rel => exact ⟨qq1 + 1, _, s7, _, by omega, by go_num, HCn, HBn, HDn, HLn, HMn, HRn⟩
          case measure => simp [intOf]; omega
    | false =>
      have hno := of_decide_eq_false (unhide HP).symm
      have hrr : (M.map flC, st) = (fs, s4) := by
        rw [← unhide HRP]
        by_cases h0 : st.why = 0
        · rw [show m - qq1 = 0 by
            by_cases hlt : qq1 < m
            · exact absurd ⟨hlt, h0⟩ hno
            · omega]
          exact (rep_done _).symm
        · exact (rep_stop _ h0).symm
      have HNO := hide hno
      clear HRP HP hno
      injection hrr with hr1 hr2
      have HMQ : Hid (M.length ≤ m) := hide (by have := unhide HML; omega)
      have HMZ : Hid (st.why = 0 → M.length = m) := hide (fun h0 => by have := unhide HML; have hh := unhide HNO; by_cases hlt : qq1 < m; exact absurd ⟨hlt, h0⟩ hh; omega)
      clear HNO
      obtain ⟨xa, xc, hv, hrow, hall, hnil, hcap⟩ := (unhide HD102).outC
      subst hv
      have hgw := grown_row (W := wr) w.heap.size #[.string ⟨nm.toArray⟩, .int .i64 (parI n), .slice xa M.length xc]
      have HZ : Hid (Bx (wr.setRow w.heap.size #[.string ⟨nm.toArray⟩, .int .i64 (parI n), .slice xa M.length xc]) w.heap.size 80 #[.string ⟨nm.toArray⟩, .int .i64 (parI n), .slice xa M.length xc]) := hide (setRow_heap _ _ _ _ _ _ (unhide HC102).out)
      have HRW : Hid (RowAt flN (wr.setRow w.heap.size #[.string ⟨nm.toArray⟩, .int .i64 (parI n), .slice xa M.length xc]) xa M ∧ RowAll flN (fun b => w.heap.size ≤ b) xa M) := hide ⟨hrow.far hgw (RowAll.mono (fun b hb => by have := unhide HLO; omega) hall), RowAll.mono (fun b hb => by have := unhide HLO; omega) hall⟩
      have HCU := hide ((unhide HC102).cu.far hgw (by have := (unhide HC102).pl; omega) ((unhide HC102).bl.mono (fun b hb => by omega)))
      have HGG := hide (grownBy_more (unhide HC102).gr hgw (fun x e => Or.inl (by injection e with e; omega)))
      have HOK : Hid (COk ⟨⟨nm.toArray⟩, parI n, xa, xc, M⟩) := hide ⟨hnil, hcap, by have := unhide HMQ; have := unhide HM1; show M.length * 24 ≤ _; omega, by have := unhide HNML; show nm.toArray.size ≤ _; simp; omega, parI_bd (unhide HN8)⟩
      have HO := hide (unhide HC102).out
      have HBB := HB102
      have HM4 := hide hr1
      rw [hr2] at HCU
      clear hgw hrow hall HB102 HC102 HD102 HL102 hnil hcap hr1 hr2
      go_wp2_with (first | (refine wpList_load_rowG (by kernel_rfl) 80 (.tmp 3) rfl gc rfl 80 #[.string ⟨nm.toArray⟩, .int .i64 (parI n), .slice xa M.length xc] (0, 0) _ (unhide HBB) Tryz.underlying80 rfl (by kernel_rfl) ?_) | (refine wpList_store_row rfl 80 _ _ rfl w.heap.size #[.string ⟨nm.toArray⟩, .int .i64 (parI n), .slice xa M.length xc] rfl rfl 80 #[.string ⟨#[]⟩, .int .i64 0, .slice none 0 0] (unhide HO) (by kernel_rfl) rfl (by simp [Value.oneCell']) ?_))
      refine bodyPost_ret (results_bx rfl _ _ w.heap.size _ rfl (run_loadVar_row _ _ 80 80 _ (0, 0) _ (unhide HZ) Tryz.underlying80 rfl (by kernel_rfl))) rfl ⟨⟨⟨nm.toArray⟩, parI n, xa, xc, M⟩, rfl, ?_, ⟨unhide HOK, (unhide HRW).1⟩, (unhide HRW).2, unhide HCU, unhide HGG⟩
      show ((⟨nm.toArray⟩ : ByteArray).toList, parI n, M.map flC) = _
      rw [ByteArray.toList_eq, unhide HM4]
end Go.Proofs.YtibgfdjopikafaaGreatDoor

/-
  The document's cursor over a module's file: a function: as the plain one. Conditions: none but that the cursor is one.
-/
namespace Go.Proofs.YtibgfdjopikafaaGreatDoor
open Go.RowKit
set_option maxRecDepth 20000
set_option linter.unusedVariables false
set_option linter.unusedSimpArgs false

/-- What reading a function comes to. -/
def CuF (W : World) (g : Nat) (ao : Option Addr) (cap : Nat) (l : List UInt8) (x : FnC) (s : Cs) (e : Ending) (W' : World) : Prop := ∃ y : Fn, e = .returned (.agg #[.string y.nm, .slice y.sg.po y.sg.ps.length y.sg.pc, .int .u8 (y.sg.rt : Int), .int .i64 y.lo, .slice y.ca y.cd.length y.cc]) ∧ fnC y = x ∧ fnN.ok W' y ∧ fnN.all (fun b => W.heap.size ≤ b) y ∧ Cu W' g ao cap l s ∧ W.grownBy W' (some g)
set_option maxHeartbeats 16000000 in
theorem cu_function {w : World} {g : Nat} {ao : Option Addr} {cap : Nat} {l : List UInt8} {s : Cs} (h : Cu w g ao cap l s) : Calls Tryz.prog 81 #[.pointer (some ⟨g, 0, none⟩)] w (CuF w g ao cap l (fnS l s).1 (fnS l s).2) := by
  obtain ⟨in1, hi1, hz10, hz11, hz12⟩ := info_parts infoTyD
  obtain ⟨⟨nm, s1⟩, h1⟩ : ∃ r, naS l s = r := ⟨_, rfl⟩
  obtain ⟨⟨m, s2⟩, h2⟩ : ∃ r, coS 8 l s1 = r := ⟨_, rfl⟩
  obtain ⟨⟨ps, s3⟩, h3⟩ : ∃ r, repS byS m l s2 = r := ⟨_, rfl⟩
  obtain ⟨⟨rt, s4⟩, h4⟩ : ∃ r, byS l s3 = r := ⟨_, rfl⟩
  obtain ⟨⟨ln, s5⟩, h5⟩ : ∃ r, byS l s4 = r := ⟨_, rfl⟩
  obtain ⟨⟨cd, s6⟩, h6⟩ : ∃ r, loS l s5 = r := ⟨_, rfl⟩
  have e : fnS l s = ((nm, (ps, rt), (ln : Int), cd), s6) := by simp only [fnS, h1, h2, h3, h4, h5, h6]
  rw [e]
  show Calls _ _ _ _ (CuF w g ao cap l (nm, (ps, rt), (ln : Int), cd) s6)
  have hnl := naS_len l s
  have hm8 := coS_lt 8 l s1
  have hrt := byS_lt l s3
  have hln := byS_lt l s4
  have hcd := loS_len l s5
  rw [h1] at hnl
  rw [h2] at hm8
  rw [h4] at hrt
  rw [h5] at hln
  rw [h6] at hcd
  have hrb : rt < 256 := hrt
  have hlb : ln < 256 := hln
  have HRT := hide hrb
  have HLN := hide hlb
  have HCDL : Hid (cd.length < 65536) := hide hcd
  have HNML : Hid (nm.length ≤ 255) := hide hnl
  have HM1 : Hid (m ≤ 8) := hide hm8.2
  have HE1 := hide h1
  have HE2 := hide h2
  have HE4 := hide h4
  have HE5 := hide h5
  have HE6 := hide h6
  have HR1 := hide h3
  clear e hnl hm8 hrt hln hcd h1 h2 h3 h4 h5 h6 hrb hlb
  have al1 := (Below.refl w.heap.size w).alloc (Nat.le_refl _) (.cells #[.string ⟨#[]⟩, .slice none 0 0, .int .u8 0, .int .i64 0, .slice none 0 0] 44)
  have al := al1.alloc (by simp) (.cells #[.string ⟨#[]⟩, .slice none 0 0, .int .u8 0, .int .i64 0, .slice none 0 0] 44)
  have n1 := heap_alloc_new w (.cells #[.string ⟨#[]⟩, .slice none 0 0, .int .u8 0, .int .i64 0, .slice none 0 0] 44)
  have n2 := heap_alloc_new (w.alloc (.cells #[.string ⟨#[]⟩, .slice none 0 0, .int .u8 0, .int .i64 0, .slice none 0 0] 44)) (.cells #[.string ⟨#[]⟩, .slice none 0 0, .int .u8 0, .int .i64 0, .slice none 0 0] 44)
  rw [World.size_alloc] at n2
  have HC : Hid (K0 w ((w.alloc (.cells #[.string ⟨#[]⟩, .slice none 0 0, .int .u8 0, .int .i64 0, .slice none 0 0] 44)).alloc (.cells #[.string ⟨#[]⟩, .slice none 0 0, .int .u8 0, .int .i64 0, .slice none 0 0] 44)) g ao cap l s 44 #[.string ⟨#[]⟩, .slice none 0 0, .int .u8 0, .int .i64 0, .slice none 0 0]) := hide ⟨h.below al, grown_of_below al _, (((Below.refl _ _).alloc (Nat.le_refl _) _).block w.heap.size (by simp)).trans n1, bat_lt h.bts, h.lt, by simp⟩
  have HB : Hid (Bx ((w.alloc (.cells #[.string ⟨#[]⟩, .slice none 0 0, .int .u8 0, .int .i64 0, .slice none 0 0] 44)).alloc (.cells #[.string ⟨#[]⟩, .slice none 0 0, .int .u8 0, .int .i64 0, .slice none 0 0] 44)) (w.heap.size + 1) 44 #[.string ⟨#[]⟩, .slice none 0 0, .int .u8 0, .int .i64 0, .slice none 0 0]) := hide n2
  have hgl : g < w.heap.size := h.lt
  have mixed := mixedT
  clear al1 al n1 n2 h
  go_enter Tryz.func81, Tryz.ntmps81
  go_upto_region 2 with fail
  generalize ((w.alloc (.cells #[.string ⟨#[]⟩, .slice none 0 0, .int .u8 0, .int .i64 0, .slice none 0 0] 44)).alloc (.cells #[.string ⟨#[]⟩, .slice none 0 0, .int .u8 0, .int .i64 0, .slice none 0 0] 44)) = W1 at HC HB ⊢
  obtain ⟨gc, HGE⟩ : ∃ gc, w.heap.size + 1 = gc := ⟨_, rfl⟩
  rw [HGE] at HB ⊢
  have HGC : Hid (w.heap.size < gc ∧ gc < W1.heap.size) := hide ⟨by omega, (unhide HB).lt⟩
  clear HGE
  have HK := hide (cu_nameE (unhide HC).cu (unhide HE1))
  go_wp2_with fail
  refine (unhide HK).mono ?_
  rintro e W2 ⟨rfl, hc, hg⟩
  have HC2 := hide ((unhide HC).step hc hg)
  have HB2 := hide (box_step (unhide HB) hg (by have := (unhide HGC).1; omega))
  have HGC2 : Hid (w.heap.size < gc ∧ gc < W2.heap.size) := hide ⟨(unhide HGC).1, Nat.lt_of_lt_of_le (unhide HGC).2 hg.size⟩
  clear hc hg HK HC HB
  have HGC := HGC2
  clear HGC2
  have q2 := (unhide HB2).c 0 rfl
  have f2 := (unhide HB2).f 0
  go_upto_region 3 with fail
  have hgs := grownBy_set W2 gc 0 (.string ⟨nm.toArray⟩)
  have HC3 := hide ((unhide HC2).own hgs (by have := unhide HGC; omega))
  have HB3 : Hid (Bx (W2.setCell ⟨gc, 0, none⟩ (.string ⟨nm.toArray⟩)) gc 44 #[.string ⟨nm.toArray⟩, .slice none 0 0, .int .u8 0, .int .i64 0, .slice none 0 0]) := hide ((unhide HB2).set 0 _ rfl)
  have HGC3 : Hid (w.heap.size < gc ∧ gc < (W2.setCell ⟨gc, 0, none⟩ (.string ⟨nm.toArray⟩)).heap.size) := hide ⟨(unhide HGC).1, (unhide HB3).lt⟩
  clear q2 f2 hgs HC2 HB2 HGC
  have HGC := HGC3
  clear HGC3
  generalize W2.setCell ⟨gc, 0, none⟩ (.string ⟨nm.toArray⟩) = W3 at HC3 HB3 HGC ⊢
  have HK := hide (cu_countE (unhide HC3).cu (unhide HE2))
  go_wp2_with fail
  refine (unhide HK).mono ?_
  rintro e W7 ⟨rfl, hc, hg⟩
  have HC7 := hide ((unhide HC3).step hc hg)
  have HB7 := hide (box_step (unhide HB3) hg (by have := (unhide HGC).1; omega))
  have HGC7 : Hid (w.heap.size < gc ∧ gc < W7.heap.size) := hide ⟨(unhide HGC).1, Nat.lt_of_lt_of_le (unhide HGC).2 hg.size⟩
  clear hc hg HK HC3 HB3
  have HGC := HGC7
  clear HGC7
  obtain ⟨base, HBS⟩ : ∃ base, base = W7.heap.size := ⟨_, rfl⟩
  have HLO : Hid (w.heap.size < gc ∧ gc < base) := hide ⟨(unhide HGC).1, by have := (unhide HGC).2; omega⟩
  have HL7 : Hid (base ≤ W7.heap.size) := hide (by omega)
  clear HBS
  go_wp2_with fail
  go_loopw [5] (fun i wr => ∃ (q : Nat) (M : List Nat) (st : Cs) (v : Value), q ≤ m ∧ i = .int .i64 (q : Int) ∧ Hid (K0 w wr g ao cap l st 44 #[.string ⟨#[]⟩, .slice none 0 0, .int .u8 0, .int .i64 0, .slice none 0 0]) ∧ Hid (Bx wr gc 44 #[.string ⟨nm.toArray⟩, v, .int .u8 0, .int .i64 0, .slice none 0 0]) ∧ Hid (Bld tyN wr base v M) ∧ Hid (base ≤ wr.heap.size) ∧ Hid (M.length = q) ∧ Hid ((M.map id ++ (repS byS (m - q) l st).1, (repS byS (m - q) l st).2) = (ps, s3))) (fun i _ => m - (intOf i).toNat)
  case atStart => exact ⟨0, [], s2, .slice none 0 0, by omega, rfl, HC7, HB7, hide (Bld.nil _ _ _), HL7, hide rfl, hide (rep0 (unhide HR1))⟩
  case round =>
    clear HC7 HB7 HL7
    obtain ⟨qq1, M, st, v, hqq1, rfl, HC101, HB101, HD101, HL101, HML, HRP⟩ := hrel
    have c3 := (unhide HC101).cu.bx.c 3 rfl
    go_upto_region 5 with fail
    go_cut [20] (fun c wx => ∃ p : Bool, c = .bool p ∧ Hid (p = decide (qq1 < m ∧ st.why = 0)) ∧ Hid (K0 w wx g ao cap l st 44 #[.string ⟨#[]⟩, .slice none 0 0, .int .u8 0, .int .i64 0, .slice none 0 0]) ∧ Hid (Bx wx gc 44 #[.string ⟨nm.toArray⟩, v, .int .u8 0, .int .i64 0, .slice none 0 0]) ∧ Hid (Bld tyN wx base v M) ∧ Hid (base ≤ wx.heap.size))
    case first =>
      by_cases hlt : qq1 < m
      · have i1 : ((qq1 : Nat) : Int) < ((m : Nat) : Int) := by omega
        by_cases h0 : st.why = 0
        · have t0 : (st.why == 0) = true := beq_t h0
          have HP : Hid (true = decide (qq1 < m ∧ st.why = 0)) := hide (by symm; rw [decide_eq_true_iff]; exact ⟨hlt, h0⟩)
          clear h0 hlt
          go_wp2
          go_meet
          exact ⟨true, rfl, HP, HC101, HB101, HD101, HL101⟩
        · have t0 : (st.why == 0) = false := beq_f h0
          have HP : Hid (false = decide (qq1 < m ∧ st.why = 0)) := hide (by symm; rw [decide_eq_false_iff_not]; rintro ⟨_, h⟩; exact h0 h)
          clear h0 hlt
          go_wp2
          go_meet
          exact ⟨false, rfl, HP, HC101, HB101, HD101, HL101⟩
      · have i1 : ¬ ((qq1 : Nat) : Int) < ((m : Nat) : Int) := by omega
        have HP : Hid (false = decide (qq1 < m ∧ st.why = 0)) := hide (by symm; rw [decide_eq_false_iff_not]; rintro ⟨h, _⟩; exact hlt h)
        clear hlt
        go_wp2
        go_meet
        exact ⟨false, rfl, HP, HC101, HB101, HD101, HL101⟩
    case rest =>
    clear HC101 HB101 HD101 HL101 c3
    obtain ⟨p, rfl, HP, HC102, HB102, HD102, HL102⟩ := hcut
    rename World => wr
    cases p with
    | true =>
      obtain ⟨hlt, h0⟩ := of_decide_eq_true (unhide HP).symm
      have HW0 := hide h0
      have i1 : ((qq1 : Nat) : Int) < ((m : Nat) : Int) := by omega
      obtain ⟨r, HRE⟩ : ∃ r, Hid (m - qq1 = r + 1) := ⟨m - qq1 - 1, hide (by omega)⟩
      obtain ⟨va, vc, rfl⟩ := (unhide HD102).slice
      have HVL : Hid (∀ x, (Value.slice va M.length vc).ownBlock = some x → base ≤ x) := hide (fun x e => (World.ownsRow.lt (unhide HD102).own x e).1)
      have hmb := unhide HM1
      clear h0 HP
      rw [unhide HRE] at HRP
      go_upto_region 7 with fail
      refine wp_region_held_drew (S := fun _ => True) mixed trivial (fun hS => ?_)
      have hdw : Below wr.heap.size wr wr.drew := Below.drew (Below.refl _ _)
      have HC103 := hide ((unhide HC102).below hdw)
      have HB103 := hide ((unhide HB102).below hdw)
      have HD103 := hide ((unhide HD102).below hdw)
      have HL103 : Hid (base ≤ wr.drew.heap.size) := hide (unhide HL102)
      clear hdw HC102 HB102 HD102 HL102
      generalize wr.drew = Wd at HC103 HB103 HD103 HL103 ⊢
      refine wpAnyH_take (i := 0) (v := .pointer (some ⟨gc, 1, none⟩)) rfl (by kernel_rfl) (by kernel_rfl) (by kernel_rfl) (fun _ _ _ h => h) (Or.inl ⟨by rfl, fun W _ => by go_simp⟩) hS ?_
      go_simp
      refine wpAnyH_take (i := 1) (v := .pointer (some ⟨gc, 1, none⟩)) rfl (by kernel_rfl) (by kernel_rfl) (by kernel_rfl) (fun _ _ _ h => h) (Or.inl ⟨by rfl, fun W _ => by go_simp⟩) hS ?_
      go_simp
      refine wpAnyH_take (i := 3) (v := .pointer (some ⟨g, 0, none⟩)) rfl (by kernel_rfl) (by kernel_rfl) (by kernel_rfl) (fun _ _ _ h => h) (Or.inl ⟨by rfl, fun W _ => by go_simp⟩) hS ?_
      go_simp
      refine wpAnyH_ready (rs := [2, 4]) (by kernel_rfl) (by simp) ?_
      refine AllReadyH.cons rfl (fun KK hK => ?_) ?_
      · have q2 := (unhide HB103).c 1 rfl
        go_simp
        refine hK.out _ _ trivial (fun hS => ?_)
        clear hK KK q2
        refine wpAnyH_ready (rs := [4]) (by kernel_rfl) (by simp) ?_
        refine AllReadyH.cons rfl (fun KK hK => ?_) AllReadyH.nil
        go_simp
        obtain ⟨⟨t, s7⟩, hby⟩ : ∃ r, byS l st = r := ⟨_, rfl⟩
        have ht := byS_lt l st
        rw [hby] at ht
        have htb : t < 256 := ht
        have HTL := hide htb
        have hw8 : IntKind.u8.wrap (t : Int) = (t : Int) := by simp [IntKind.wrap, IntKind.bits, IntKind.signed]; omega
        have HFD := hide hby
        have HK := hide (cu_byteE (unhide HC103).cu hby)
        refine (unhide HK).mono ?_
        rintro e W105 ⟨rfl, hc, hg⟩
        have HC105 := hide ((unhide HC103).step hc hg)
        have HB105 := hide (box_step (unhide HB103) hg (by have := (unhide HGC); omega))
        have HD105 := hide ((unhide HD103).box hg (by have := (unhide HLO); omega))
        have HL105 : Hid (base ≤ W105.heap.size) := hide (Nat.le_trans (unhide HL103) hg.size)
        refine hK.out _ _ trivial (fun hS => ?_)
        clear hK KK HK hc hg ht hby htb HC103 HB103 HD103 HL103
        refine wpAnyH_take (i := 5) (v := .int .u8 (t : Int)) rfl (by kernel_rfl) (by kernel_rfl) (by kernel_rfl) (fun _ _ _ h => h) (Or.inl ⟨by rfl, fun W _ => by go_simp⟩) hS ?_
        go_simp
        refine wpAnyH_ready (rs := [6]) (by kernel_rfl) (by simp) ?_
        refine AllReadyH.cons rfl (fun KK hK => ?_) AllReadyH.nil
        go_simp
        have HBA106 := hide ((unhide HB105).below ((Below.refl W105.heap.size W105).alloc (Nat.le_refl _) (.cells #[.int .u8 (t : Int)] 40)))
        refine hK.out _ _ trivial (fun hS => ?_)
        clear hK KK
        refine wpAnyH_ready (rs := [7]) (by kernel_rfl) (by simp) ?_
        refine AllReadyH.cons rfl (fun KK hK => ?_) AllReadyH.nil
        refine step_append_lies _ (by rfl) _ _ 39 (by rfl) base 40 in1 _ 1 1 Tryz.underlying39 hi1 hz10 hz11 hz12 rfl (by omega) (.slice va M.length vc) M.length (vals tyN M) (by rfl) (rowBelow (unhide HD105).own ((Below.refl _ _).alloc (Nat.le_refl _) _)) ⟨W105.heap.size, 0, none⟩ 1 1 (tyN.cells t) (by rfl) (by rfl) (World.news_of_block (cs := #[.int .u8 (t : Int)]) (t := 40) (fr := (0, 0)) (heap_alloc_new W105 _)) (fun u hu => by simp [tyN] at hu; rcases hu with rfl <;> rfl) (by omega) (by have := unhide HML; have := unhide HM1; unfold maxLen; omega) (by have := unhide HML; have := unhide HM1; omega) (by rw [World.size_alloc]; have := unhide HL105; omega) (W105.heap.size + 1) (by simp) ?_
        intro g3 cap3 W107 hown hgrow hat hlt3
        have al : Below W105.heap.size W105 (W105.alloc (.cells #[.int .u8 (t : Int)] 40)) := (Below.refl _ _).alloc (Nat.le_refl _) _
        have HD107 : Hid (Bld tyN W107 base (.slice (some ⟨g3, 0, none⟩) (M.length + 1) cap3) (M ++ [t])) := hide ((unhide HD105).snoc (y := t) (unhide HTL) trivial (fun _ _ => trivial) hown hgrow hat)
        have HC107 := hide (((unhide HC105).below al).row hgrow (fun x e => by have := unhide HVL x e; have := unhide HLO; omega))
        have HB107 := hide (((unhide HB105).below al).grown hgrow (fun e => by have := unhide HVL gc e; have := unhide HLO; omega))
        have HL107 : Hid (base ≤ W107.heap.size) := hide (by have := hgrow.size; rw [World.size_alloc] at this; have := unhide HL105; omega)
        refine hK.out _ _ trivial (fun hS => ?_)
        clear hK KK hown hgrow hat hlt3 al HC105 HB105 HD105 HL105
        refine wpAnyH_take (i := 8) (v := .pointer (some ⟨gc, 1, none⟩)) rfl (by kernel_rfl) (by kernel_rfl) (by kernel_rfl) (fun _ _ _ h => h) (Or.inl ⟨by rfl, fun W _ => by go_simp⟩) hS ?_
        go_simp
        refine wpAnyH_take (i := 9) (v := .pointer (some ⟨gc, 1, none⟩)) rfl (by kernel_rfl) (by kernel_rfl) (by kernel_rfl) (fun _ _ _ h => h) (Or.inl ⟨by rfl, fun W _ => by go_simp⟩) hS ?_
        go_simp
        refine wpAnyH_ready (rs := [10]) (by kernel_rfl) (by simp) ?_
        refine AllReadyH.cons rfl (fun KK hK => ?_) AllReadyH.nil
        have q2 := (unhide HB107).c 1 rfl
        have f2 := (unhide HB107).f 1
        go_simp
        have hgs := grownBy_set W107 gc 1 (.slice (some ⟨g3, 0, none⟩) (M.length + 1) cap3)
        have HCn := hide ((unhide HC107).own hgs (by have := (unhide HLO); omega))
        have HBn : Hid (Bx (W107.setCell ⟨gc, 1, none⟩ (.slice (some ⟨g3, 0, none⟩) (M.length + 1) cap3)) gc 44 #[.string ⟨nm.toArray⟩, .slice (some ⟨g3, 0, none⟩) (M.length + 1) cap3, .int .u8 0, .int .i64 0, .slice none 0 0]) := hide ((unhide HB107).set 1 _ rfl)
        have HDn := hide ((unhide HD107).box hgs (by have := unhide HLO; omega))
        have HLn : Hid (base ≤ (W107.setCell ⟨gc, 1, none⟩ (.slice (some ⟨g3, 0, none⟩) (M.length + 1) cap3)).heap.size) := hide (Nat.le_trans (unhide HL107) hgs.size)
        have HMn : Hid ((M ++ [t]).length = qq1 + 1) := hide (by rw [List.length_append, unhide HML]; rfl)
        have HRn : Hid (((M ++ [t]).map id ++ (repS byS (m - (qq1 + 1)) l s7).1, (repS byS (m - (qq1 + 1)) l s7).2) = (ps, s3)) := hide (by
          rw [← unhide HRP, rep_step (M.map id) (unhide HW0) (unhide HFD), show m - (qq1 + 1) = r by have := unhide HRE; omega, List.map_append, List.map_cons, List.map_nil, id_eq])
        clear q2 f2 hgs HC107 HB107 HD107 HL107 HRP HML
        refine hK.out _ _ trivial (fun hS => ?_)
        clear hK KK hS
        refine wpAnyH_done (by kernel_rfl) ?_ _
        go_wp2
        go_roundw
        case rel => exact ⟨qq1 + 1, _, s7, _, by omega, by go_num, HCn, HBn, HDn, HLn, HMn, HRn⟩
        case measure => simp [intOf]; omega
      · refine AllReadyH.cons rfl (fun KK hK => ?_) AllReadyH.nil
        go_simp
        obtain ⟨⟨t, s7⟩, hby⟩ : ∃ r, byS l st = r := ⟨_, rfl⟩
        have ht := byS_lt l st
        rw [hby] at ht
        have htb : t < 256 := ht
        have HTL := hide htb
        have hw8 : IntKind.u8.wrap (t : Int) = (t : Int) := by simp [IntKind.wrap, IntKind.bits, IntKind.signed]; omega
        have HFD := hide hby
        have HK := hide (cu_byteE (unhide HC103).cu hby)
        refine (unhide HK).mono ?_
        rintro e W108 ⟨rfl, hc, hg⟩
        have HC108 := hide ((unhide HC103).step hc hg)
        have HB108 := hide (box_step (unhide HB103) hg (by have := (unhide HGC); omega))
        have HD108 := hide ((unhide HD103).box hg (by have := (unhide HLO); omega))
        have HL108 : Hid (base ≤ W108.heap.size) := hide (Nat.le_trans (unhide HL103) hg.size)
        refine hK.out _ _ trivial (fun hS => ?_)
        clear hK KK HK hc hg ht hby htb HC103 HB103 HD103 HL103
        refine wpAnyH_take (i := 5) (v := .int .u8 (t : Int)) rfl (by kernel_rfl) (by kernel_rfl) (by kernel_rfl) (fun _ _ _ h => h) (Or.inl ⟨by rfl, fun W _ => by go_simp⟩) hS ?_
        go_simp
        refine wpAnyH_ready (rs := [2, 6]) (by kernel_rfl) (by simp) ?_
        refine AllReadyH.cons rfl (fun KK hK => ?_) ?_
        · have q2 := (unhide HB108).c 1 rfl
          go_simp
          refine hK.out _ _ trivial (fun hS => ?_)
          clear hK KK q2
          refine wpAnyH_ready (rs := [6]) (by kernel_rfl) (by simp) ?_
          refine AllReadyH.cons rfl (fun KK hK => ?_) AllReadyH.nil
          go_simp
          have HBA110 := hide ((unhide HB108).below ((Below.refl W108.heap.size W108).alloc (Nat.le_refl _) (.cells #[.int .u8 (t : Int)] 40)))
          refine hK.out _ _ trivial (fun hS => ?_)
          clear hK KK
          refine wpAnyH_ready (rs := [7]) (by kernel_rfl) (by simp) ?_
          refine AllReadyH.cons rfl (fun KK hK => ?_) AllReadyH.nil
          refine step_append_lies _ (by rfl) _ _ 39 (by rfl) base 40 in1 _ 1 1 Tryz.underlying39 hi1 hz10 hz11 hz12 rfl (by omega) (.slice va M.length vc) M.length (vals tyN M) (by rfl) (rowBelow (unhide HD108).own ((Below.refl _ _).alloc (Nat.le_refl _) _)) ⟨W108.heap.size, 0, none⟩ 1 1 (tyN.cells t) (by rfl) (by rfl) (World.news_of_block (cs := #[.int .u8 (t : Int)]) (t := 40) (fr := (0, 0)) (heap_alloc_new W108 _)) (fun u hu => by simp [tyN] at hu; rcases hu with rfl <;> rfl) (by omega) (by have := unhide HML; have := unhide HM1; unfold maxLen; omega) (by have := unhide HML; have := unhide HM1; omega) (by rw [World.size_alloc]; have := unhide HL108; omega) (W108.heap.size + 1) (by simp) ?_
          intro g3 cap3 W111 hown hgrow hat hlt3
          have al : Below W108.heap.size W108 (W108.alloc (.cells #[.int .u8 (t : Int)] 40)) := (Below.refl _ _).alloc (Nat.le_refl _) _
          have HD111 : Hid (Bld tyN W111 base (.slice (some ⟨g3, 0, none⟩) (M.length + 1) cap3) (M ++ [t])) := hide ((unhide HD108).snoc (y := t) (unhide HTL) trivial (fun _ _ => trivial) hown hgrow hat)
          have HC111 := hide (((unhide HC108).below al).row hgrow (fun x e => by have := unhide HVL x e; have := unhide HLO; omega))
          have HB111 := hide (((unhide HB108).below al).grown hgrow (fun e => by have := unhide HVL gc e; have := unhide HLO; omega))
          have HL111 : Hid (base ≤ W111.heap.size) := hide (by have := hgrow.size; rw [World.size_alloc] at this; have := unhide HL108; omega)
          refine hK.out _ _ trivial (fun hS => ?_)
          clear hK KK hown hgrow hat hlt3 al HC108 HB108 HD108 HL108
          refine wpAnyH_take (i := 8) (v := .pointer (some ⟨gc, 1, none⟩)) rfl (by kernel_rfl) (by kernel_rfl) (by kernel_rfl) (fun _ _ _ h => h) (Or.inl ⟨by rfl, fun W _ => by go_simp⟩) hS ?_
          go_simp
          refine wpAnyH_take (i := 9) (v := .pointer (some ⟨gc, 1, none⟩)) rfl (by kernel_rfl) (by kernel_rfl) (by kernel_rfl) (fun _ _ _ h => h) (Or.inl ⟨by rfl, fun W _ => by go_simp⟩) hS ?_
          go_simp
          refine wpAnyH_ready (rs := [10]) (by kernel_rfl) (by simp) ?_
          refine AllReadyH.cons rfl (fun KK hK => ?_) AllReadyH.nil
          have q2 := (unhide HB111).c 1 rfl
          have f2 := (unhide HB111).f 1
          go_simp
          have hgs := grownBy_set W111 gc 1 (.slice (some ⟨g3, 0, none⟩) (M.length + 1) cap3)
          have HCn := hide ((unhide HC111).own hgs (by have := (unhide HLO); omega))
          have HBn : Hid (Bx (W111.setCell ⟨gc, 1, none⟩ (.slice (some ⟨g3, 0, none⟩) (M.length + 1) cap3)) gc 44 #[.string ⟨nm.toArray⟩, .slice (some ⟨g3, 0, none⟩) (M.length + 1) cap3, .int .u8 0, .int .i64 0, .slice none 0 0]) := hide ((unhide HB111).set 1 _ rfl)
          have HDn := hide ((unhide HD111).box hgs (by have := unhide HLO; omega))
          have HLn : Hid (base ≤ (W111.setCell ⟨gc, 1, none⟩ (.slice (some ⟨g3, 0, none⟩) (M.length + 1) cap3)).heap.size) := hide (Nat.le_trans (unhide HL111) hgs.size)
          have HMn : Hid ((M ++ [t]).length = qq1 + 1) := hide (by rw [List.length_append, unhide HML]; rfl)
          have HRn : Hid (((M ++ [t]).map id ++ (repS byS (m - (qq1 + 1)) l s7).1, (repS byS (m - (qq1 + 1)) l s7).2) = (ps, s3)) := hide (by
            rw [← unhide HRP, rep_step (M.map id) (unhide HW0) (unhide HFD), show m - (qq1 + 1) = r by have := unhide HRE; omega, List.map_append, List.map_cons, List.map_nil, id_eq])
          clear q2 f2 hgs HC111 HB111 HD111 HL111 HRP HML
          refine hK.out _ _ trivial (fun hS => ?_)
          clear hK KK hS
          refine wpAnyH_done (by kernel_rfl) ?_ _
          go_wp2
          go_roundw
          case rel => exact ⟨qq1 + 1, _, s7, _, by omega, by go_num, HCn, HBn, HDn, HLn, HMn, HRn⟩
          case measure => simp [intOf]; omega
        · refine AllReadyH.cons rfl (fun KK hK => ?_) AllReadyH.nil
          go_simp
          have HBA112 := hide ((unhide HB108).below ((Below.refl W108.heap.size W108).alloc (Nat.le_refl _) (.cells #[.int .u8 (t : Int)] 40)))
          refine hK.out _ _ trivial (fun hS => ?_)
          clear hK KK
          refine wpAnyH_ready (rs := [2]) (by kernel_rfl) (by simp) ?_
          refine AllReadyH.cons rfl (fun KK hK => ?_) AllReadyH.nil
          have q2 := (unhide HBA112).c 1 rfl
          go_simp
          refine hK.out _ _ trivial (fun hS => ?_)
          clear hK KK q2
          refine wpAnyH_ready (rs := [7]) (by kernel_rfl) (by simp) ?_
          refine AllReadyH.cons rfl (fun KK hK => ?_) AllReadyH.nil
          refine step_append_lies _ (by rfl) _ _ 39 (by rfl) base 40 in1 _ 1 1 Tryz.underlying39 hi1 hz10 hz11 hz12 rfl (by omega) (.slice va M.length vc) M.length (vals tyN M) (by rfl) (rowBelow (unhide HD108).own ((Below.refl _ _).alloc (Nat.le_refl _) _)) ⟨W108.heap.size, 0, none⟩ 1 1 (tyN.cells t) (by rfl) (by rfl) (World.news_of_block (cs := #[.int .u8 (t : Int)]) (t := 40) (fr := (0, 0)) (heap_alloc_new W108 _)) (fun u hu => by simp [tyN] at hu; rcases hu with rfl <;> rfl) (by omega) (by have := unhide HML; have := unhide HM1; unfold maxLen; omega) (by have := unhide HML; have := unhide HM1; omega) (by rw [World.size_alloc]; have := unhide HL108; omega) (W108.heap.size + 1) (by simp) ?_
          intro g3 cap3 W114 hown hgrow hat hlt3
          have al : Below W108.heap.size W108 (W108.alloc (.cells #[.int .u8 (t : Int)] 40)) := (Below.refl _ _).alloc (Nat.le_refl _) _
          have HD114 : Hid (Bld tyN W114 base (.slice (some ⟨g3, 0, none⟩) (M.length + 1) cap3) (M ++ [t])) := hide ((unhide HD108).snoc (y := t) (unhide HTL) trivial (fun _ _ => trivial) hown hgrow hat)
          have HC114 := hide (((unhide HC108).below al).row hgrow (fun x e => by have := unhide HVL x e; have := unhide HLO; omega))
          have HB114 := hide (((unhide HB108).below al).grown hgrow (fun e => by have := unhide HVL gc e; have := unhide HLO; omega))
          have HL114 : Hid (base ≤ W114.heap.size) := hide (by have := hgrow.size; rw [World.size_alloc] at this; have := unhide HL108; omega)
          refine hK.out _ _ trivial (fun hS => ?_)
          clear hK KK hown hgrow hat hlt3 al HC108 HB108 HD108 HL108
          refine wpAnyH_take (i := 8) (v := .pointer (some ⟨gc, 1, none⟩)) rfl (by kernel_rfl) (by kernel_rfl) (by kernel_rfl) (fun _ _ _ h => h) (Or.inl ⟨by rfl, fun W _ => by go_simp⟩) hS ?_
          go_simp
          refine wpAnyH_take (i := 9) (v := .pointer (some ⟨gc, 1, none⟩)) rfl (by kernel_rfl) (by kernel_rfl) (by kernel_rfl) (fun _ _ _ h => h) (Or.inl ⟨by rfl, fun W _ => by go_simp⟩) hS ?_
          go_simp
          refine wpAnyH_ready (rs := [10]) (by kernel_rfl) (by simp) ?_
          refine AllReadyH.cons rfl (fun KK hK => ?_) AllReadyH.nil
          have q2 := (unhide HB114).c 1 rfl
          have f2 := (unhide HB114).f 1
          go_simp
          have hgs := grownBy_set W114 gc 1 (.slice (some ⟨g3, 0, none⟩) (M.length + 1) cap3)
          have HCn := hide ((unhide HC114).own hgs (by have := (unhide HLO); omega))
          have HBn : Hid (Bx (W114.setCell ⟨gc, 1, none⟩ (.slice (some ⟨g3, 0, none⟩) (M.length + 1) cap3)) gc 44 #[.string ⟨nm.toArray⟩, .slice (some ⟨g3, 0, none⟩) (M.length + 1) cap3, .int .u8 0, .int .i64 0, .slice none 0 0]) := hide ((unhide HB114).set 1 _ rfl)
          have HDn := hide ((unhide HD114).box hgs (by have := unhide HLO; omega))
          have HLn : Hid (base ≤ (W114.setCell ⟨gc, 1, none⟩ (.slice (some ⟨g3, 0, none⟩) (M.length + 1) cap3)).heap.size) := hide (Nat.le_trans (unhide HL114) hgs.size)
          have HMn : Hid ((M ++ [t]).length = qq1 + 1) := hide (by rw [List.length_append, unhide HML]; rfl)
          have HRn : Hid (((M ++ [t]).map id ++ (repS byS (m - (qq1 + 1)) l s7).1, (repS byS (m - (qq1 + 1)) l s7).2) = (ps, s3)) := hide (by
            rw [← unhide HRP, rep_step (M.map id) (unhide HW0) (unhide HFD), show m - (qq1 + 1) = r by have := unhide HRE; omega, List.map_append, List.map_cons, List.map_nil, id_eq])
          clear q2 f2 hgs HC114 HB114 HD114 HL114 HRP HML
          refine hK.out _ _ trivial (fun hS => ?_)
          clear hK KK hS
          refine wpAnyH_done (by kernel_rfl) ?_ _
          go_wp2
          go_roundw
          case rel => exact ⟨qq1 + 1, _, s7, _, by omega, by go_num, HCn, HBn, HDn, HLn, HMn, HRn⟩
          case measure => simp [intOf]; omega
    | false =>
      have hno := of_decide_eq_false (unhide HP).symm
      have hrr : (M.map id, st) = (ps, s3) := by
        rw [← unhide HRP]
        by_cases h0 : st.why = 0
        · rw [show m - qq1 = 0 by
            by_cases hlt : qq1 < m
            · exact absurd ⟨hlt, h0⟩ hno
            · omega]
          exact (rep_done _).symm
        · exact (rep_stop _ h0).symm
      have HNO := hide hno
      clear HRP HP hno
      injection hrr with hr1 hr2
      have HMQ : Hid (M.length ≤ m) := hide (by have := unhide HML; omega)
      have HMZ : Hid (st.why = 0 → M.length = m) := hide (fun h0 => by have := unhide HML; have hh := unhide HNO; by_cases hlt : qq1 < m; exact absurd ⟨hlt, h0⟩ hh; omega)
      clear HNO
      have HCa : Hid (K0 w wr g ao cap l s3 44 #[.string ⟨#[]⟩, .slice none 0 0, .int .u8 0, .int .i64 0, .slice none 0 0]) := hide (by rw [← hr2]; exact unhide HC102)
      have HBa := HB102
      have HDa := HD102
      have HLa := HL102
      have HPS : Hid (M = ps) := hide (by rw [← hr1, List.map_id])
      clear hr1 hr2 HC102 HB102 HD102 HL102 HMZ
      obtain ⟨pa, pc, rfl⟩ := (unhide HDa).slice
      have hrt8 := unhide HRT
      have hw8 : IntKind.u8.wrap (rt : Int) = (rt : Int) := by simp [IntKind.wrap, IntKind.bits, IntKind.signed]; omega
      have HK := hide (cu_byteE (unhide HCa).cu (unhide HE4))
      go_wp2_with fail
      refine (unhide HK).mono ?_
      rintro e W11 ⟨rfl, hc, hg⟩
      have HC11 := hide ((unhide HCa).step hc hg)
      have HB11 := hide (box_step (unhide HBa) hg (by have := unhide HGC; omega))
      have HD11 := hide ((unhide HDa).box hg (by have := (unhide HLO); omega))
      have HL11 : Hid (base ≤ W11.heap.size) := hide (Nat.le_trans (unhide HLa) hg.size)
      clear hc hg HK HCa HBa HDa HLa
      have q2 := (unhide HB11).c 2 rfl
      have f2 := (unhide HB11).f 2
      go_upto_region 9 with fail
      have hgs := grownBy_set W11 gc 2 (.int .u8 (rt : Int))
      have HC12 := hide ((unhide HC11).own hgs (by have := unhide HLO; omega))
      have HB12 : Hid (Bx (W11.setCell ⟨gc, 2, none⟩ (.int .u8 (rt : Int))) gc 44 #[.string ⟨nm.toArray⟩, .slice pa M.length pc, .int .u8 (rt : Int), .int .i64 0, .slice none 0 0]) := hide ((unhide HB11).set 2 _ rfl)
      have HD12 := hide ((unhide HD11).box hgs (by have := unhide HLO; omega))
      have HL12 : Hid (base ≤ (W11.setCell ⟨gc, 2, none⟩ (.int .u8 (rt : Int))).heap.size) := hide (Nat.le_trans (unhide HL11) hgs.size)
      clear q2 f2 hgs HC11 HB11 HD11 HL11
      generalize W11.setCell ⟨gc, 2, none⟩ (.int .u8 (rt : Int)) = W12 at HC12 HB12 HD12 HL12 ⊢
      have HK := hide (cu_byteE (unhide HC12).cu (unhide HE5))
      go_wp2_with fail
      refine (unhide HK).mono ?_
      rintro e W13 ⟨rfl, hc, hg⟩
      have HC13 := hide ((unhide HC12).step hc hg)
      have HB13 := hide (box_step (unhide HB12) hg (by have := unhide HGC; omega))
      have HD13 := hide ((unhide HD12).box hg (by have := (unhide HLO); omega))
      have HL13 : Hid (base ≤ W13.heap.size) := hide (Nat.le_trans (unhide HL12) hg.size)
      clear hc hg HK HC12 HB12 HD12 HL12
      have q2 := (unhide HB13).c 3 rfl
      have f2 := (unhide HB13).f 3
      go_upto_region 10 with fail
      have hgs := grownBy_set W13 gc 3 (.int .i64 (ln : Int))
      have HC14 := hide ((unhide HC13).own hgs (by have := unhide HLO; omega))
      have HB14 : Hid (Bx (W13.setCell ⟨gc, 3, none⟩ (.int .i64 (ln : Int))) gc 44 #[.string ⟨nm.toArray⟩, .slice pa M.length pc, .int .u8 (rt : Int), .int .i64 (ln : Int), .slice none 0 0]) := hide ((unhide HB13).set 3 _ rfl)
      have HD14 := hide ((unhide HD13).box hgs (by have := unhide HLO; omega))
      have HL14 : Hid (base ≤ (W13.setCell ⟨gc, 3, none⟩ (.int .i64 (ln : Int))).heap.size) := hide (Nat.le_trans (unhide HL13) hgs.size)
      clear q2 f2 hgs HC13 HB13 HD13 HL13
      generalize W13.setCell ⟨gc, 3, none⟩ (.int .i64 (ln : Int)) = W14 at HC14 HB14 HD14 HL14 ⊢
      have HK := hide (cu_pieceE (unhide HC14).cu (unhide HE6))
      go_wp2_with fail
      refine (unhide HK).mono ?_
      rintro e W15 ⟨v, rfl, ho, hc, hg⟩
      have HC15 := hide ((unhide HC14).step hc hg)
      have HB15 := hide (box_step (unhide HB14) hg (by have := unhide HGC; omega))
      have HD15 := hide ((unhide HD14).box hg (by have := (unhide HLO); omega))
      have HL15 : Hid (base ≤ W15.heap.size) := hide (Nat.le_trans (unhide HL14) hg.size)
      obtain ⟨ca, cc, rfl, hba, hbl, hbn⟩ := own_out (ho.mono (unhide HL14))
      have HPA := hide (own_pl (ho.mono (unhide HL14)))
      have HBA := hide hba
      have HBK := hide hbl
      have HBN := hide hbn
      clear ho hba hbl hbn
      clear hc hg HK HC14 HB14 HD14 HL14
      have q2 := (unhide HB15).c 4 rfl
      have f2 := (unhide HB15).f 4
      go_upto_region 11 with fail
      have hgs := grownBy_set W15 gc 4 (.slice ca cd.length cc)
      have HC16 := hide ((unhide HC15).own hgs (by have := unhide HLO; omega))
      have HB16 : Hid (Bx (W15.setCell ⟨gc, 4, none⟩ (.slice ca cd.length cc)) gc 44 #[.string ⟨nm.toArray⟩, .slice pa M.length pc, .int .u8 (rt : Int), .int .i64 (ln : Int), .slice ca cd.length cc]) := hide ((unhide HB15).set 4 _ rfl)
      have HD16 := hide ((unhide HD15).box hgs (by have := unhide HLO; omega))
      have HL16 : Hid (base ≤ (W15.setCell ⟨gc, 4, none⟩ (.slice ca cd.length cc)).heap.size) := hide (Nat.le_trans (unhide HL15) hgs.size)
      have HAb := hide (bat_far (unhide HBA) hgs ((unhide HBK).mono (fun b hb => by have := (unhide HLO).2; omega)))
      have HPb := hide ((unhide HPA).far hgs ((unhide HBK).mono (fun b hb => by have := (unhide HLO).2; omega)))
      clear q2 f2 hgs HC15 HB15 HD15 HL15
      generalize W15.setCell ⟨gc, 4, none⟩ (.slice ca cd.length cc) = W16 at HC16 HB16 HD16 HL16 HAb HPb ⊢
      clear HBA HPA
      obtain ⟨pa', pc', hv, HROW, HALL, hnil, hcap⟩ := (unhide HD16).outC
      injection hv with e1 _ e2
      subst e1 e2
      have hgw := grown_row (W := W16) w.heap.size #[.string ⟨nm.toArray⟩, .slice pa M.length pc, .int .u8 (rt : Int), .int .i64 (ln : Int), .slice ca cd.length cc]
      have HZ : Hid (Bx (W16.setRow w.heap.size #[.string ⟨nm.toArray⟩, .slice pa M.length pc, .int .u8 (rt : Int), .int .i64 (ln : Int), .slice ca cd.length cc]) w.heap.size 44 #[.string ⟨nm.toArray⟩, .slice pa M.length pc, .int .u8 (rt : Int), .int .i64 (ln : Int), .slice ca cd.length cc]) := hide (setRow_heap _ _ _ _ _ _ (unhide HC16).out)
      have HOK : Hid (fnN.ok (W16.setRow w.heap.size #[.string ⟨nm.toArray⟩, .slice pa M.length pc, .int .u8 (rt : Int), .int .i64 (ln : Int), .slice ca cd.length cc]) ⟨⟨nm.toArray⟩, ⟨pa, pc, M, rt⟩, (ln : Int), ca, cc, cd⟩) := hide ⟨⟨⟨pat_of_row (HROW.far hgw (RowAll.mono (fun b hb => by have := unhide HLO; omega) HALL)), fun e => (hnil e).1, bts_of_row HROW, by have := unhide HMQ; have := unhide HM1; show M.length ≤ _; omega, unhide HRT⟩, bat_far (unhide HAb) hgw ((unhide HBK).mono (fun b hb => by have := (unhide HLO); omega)), fun e => (unhide HBN e).1, by have := unhide HCDL; show cd.length ≤ _; omega, by have := unhide HNML; show nm.toArray.size ≤ _; simp; omega, by have := unhide HLN; show -9223372036854775808 ≤ (ln : Int) ∧ (ln : Int) ≤ 9223372036854775807; omega⟩, (unhide HPb).far hgw ((unhide HBK).mono (fun b hb => by have := (unhide HLO); omega))⟩
      have HALf : Hid (fnN.all (fun b => w.heap.size ≤ b) ⟨⟨nm.toArray⟩, ⟨pa, pc, M, rt⟩, (ln : Int), ca, cc, cd⟩) := hide ⟨fun b off e hl => by have := HALL.1 b off e hl; have := unhide HLO; omega, (unhide HBK).mono (fun b hb => by have := (unhide HLO); omega)⟩
      have HCU := hide ((unhide HC16).cu.far hgw (by have := (unhide HC16).pl; omega) ((unhide HC16).bl.mono (fun b hb => by omega)))
      have HGG := hide (grownBy_more (unhide HC16).gr hgw (fun x e => Or.inl (by injection e with e; omega)))
      have HO := hide (unhide HC16).out
      have HBB := HB16
      clear hgw HROW HALL HB16 HC16 HD16 HL16 hnil hcap HAb
      go_wp2_with (first | (refine wpList_load_rowG (by kernel_rfl) 44 (.tmp 3) rfl gc rfl 44 #[.string ⟨nm.toArray⟩, .slice pa M.length pc, .int .u8 (rt : Int), .int .i64 (ln : Int), .slice ca cd.length cc] (0, 0) _ (unhide HBB) Tryz.underlying44 rfl (by kernel_rfl) ?_) | (refine wpList_store_row rfl 44 _ _ rfl w.heap.size #[.string ⟨nm.toArray⟩, .slice pa M.length pc, .int .u8 (rt : Int), .int .i64 (ln : Int), .slice ca cd.length cc] rfl rfl 44 #[.string ⟨#[]⟩, .slice none 0 0, .int .u8 0, .int .i64 0, .slice none 0 0] (unhide HO) (by kernel_rfl) rfl (by simp [Value.oneCell']) ?_))
      refine bodyPost_ret (results_bx rfl _ _ w.heap.size _ rfl (run_loadVar_row _ _ 44 44 _ (0, 0) _ (unhide HZ) Tryz.underlying44 rfl (by kernel_rfl))) rfl ⟨⟨⟨nm.toArray⟩, ⟨pa, pc, M, rt⟩, (ln : Int), ca, cc, cd⟩, rfl, ?_, unhide HOK, unhide HALf, unhide HCU, unhide HGG⟩
      show ((⟨nm.toArray⟩ : ByteArray).toList, (M, rt), (ln : Int), cd) = _
      rw [ByteArray.toList_eq, unhide HPS]
end Go.Proofs.YtibgfdjopikafaaGreatDoor

/-
  The document's cursor over a module's file: a module: as the plain one. Conditions: none but that the cursor is one.
-/
namespace Go.Proofs.YtibgfdjopikafaaGreatDoor
open Go.RowKit
set_option maxRecDepth 20000
set_option linter.unusedVariables false
set_option linter.unusedSimpArgs false

/-- What reading a module comes to. -/
def CuM (W : World) (g : Nat) (ao : Option Addr) (cap : Nat) (l : List UInt8) (x : Mc) (s : Cs) (e : Ending) (W' : World) : Prop := ∃ y : Md, e = .returned (.agg #[.string y.nm, .slice y.ao y.T.length y.cap, .slice y.fo y.F.length y.fc, .slice y.co y.C.length y.cc]) ∧ mcOf y = x ∧ MdR W' W.heap.size y ∧ Cu W' g ao cap l s ∧ W.grownBy W' (some g)
theorem cu_classE {W : World} {g : Nat} {ao : Option Addr} {cap : Nat} {l : List UInt8} {s s' : Cs} {x : ClC} (h : Cu W g ao cap l s) (e : clS l s = (x, s')) : Calls Tryz.prog 80 #[.pointer (some ⟨g, 0, none⟩)] W (CuC W g ao cap l x s') := by
  have := cu_class h
  rw [e] at this
  exact this
theorem cu_functionE {W : World} {g : Nat} {ao : Option Addr} {cap : Nat} {l : List UInt8} {s s' : Cs} {x : FnC} (h : Cu W g ao cap l s) (e : fnS l s = (x, s')) : Calls Tryz.prog 81 #[.pointer (some ⟨g, 0, none⟩)] W (CuF W g ao cap l x s') := by
  have := cu_function h
  rw [e] at this
  exact this
set_option maxHeartbeats 32000000 in
theorem cu_module {w : World} {g : Nat} {ao : Option Addr} {cap : Nat} {l : List UInt8} {s : Cs} (h : Cu w g ao cap l s) : Calls Tryz.prog 37 #[.pointer (some ⟨g, 0, none⟩)] w (CuM w g ao cap l (mdS l s).1 (mdS l s).2) := by
  obtain ⟨in1, hi1, hz10, hz11, hz12⟩ := info_parts infoCl
  obtain ⟨in2, hi2, hz20, hz21, hz22⟩ := info_parts infoFn
  obtain ⟨in3, hi3, hz30, hz31, hz32⟩ := info_parts infoBs
  obtain ⟨⟨nm, u1⟩, h1⟩ : ∃ r, naS l s = r := ⟨_, rfl⟩
  obtain ⟨⟨m1, u2⟩, h2⟩ : ∃ r, coS 32 l u1 = r := ⟨_, rfl⟩
  obtain ⟨⟨Tz, u3⟩, h3⟩ : ∃ r, repS clS m1 l u2 = r := ⟨_, rfl⟩
  obtain ⟨⟨m2, u4⟩, h4⟩ : ∃ r, coS 64 l u3 = r := ⟨_, rfl⟩
  obtain ⟨⟨Fz, u5⟩, h5⟩ : ∃ r, repS fnS m2 l u4 = r := ⟨_, rfl⟩
  obtain ⟨⟨c, u6⟩, h6⟩ : ∃ r, byS l u5 = r := ⟨_, rfl⟩
  obtain ⟨u7, h7⟩ : ∃ r, c1S c m2 u5.at_ u6 = r := ⟨_, rfl⟩
  obtain ⟨m3, h8⟩ : ∃ r, (if c = 1 then m2 else 0) = r := ⟨_, rfl⟩
  obtain ⟨⟨Cz, u8⟩, h9⟩ : ∃ r, repS loS m3 l u7 = r := ⟨_, rfl⟩
  obtain ⟨u9, h10⟩ : ∃ r, e1S l u8 = r := ⟨_, rfl⟩
  have e : mdS l s = (⟨nm, Tz, Fz, Cz⟩, u9) := by simp only [mdS, m0S, mS, mN, mT, mM, mF, ctS, h1, h2, h3, h4, h5, h6, h7, h8, h9, h10]
  rw [e]
  show Calls _ _ _ _ (CuM w g ao cap l ⟨nm, Tz, Fz, Cz⟩ u9)
  have hnl := naS_len l s
  have hm1 := coS_lt 32 l u1
  have hm2 := coS_lt 64 l u3
  have hc8 := byS_lt l u5
  rw [h1] at hnl
  rw [h2] at hm1
  rw [h4] at hm2
  rw [h6] at hc8
  have HNML : Hid (nm.length ≤ 255) := hide hnl
  have HM1 : Hid (m1 ≤ 32) := hide hm1.2
  have HM2 : Hid (m2 ≤ 64) := hide hm2.2
  have HCB : Hid (c < 256) := hide hc8
  have HE1 := hide h1
  have HE2 := hide h2
  have HR1 := hide h3
  have HE4 := hide h4
  have HR2 := hide h5
  have HE6 := hide h6
  have HE7 := hide h7
  have HM3E := hide h8
  have HR3 := hide h9
  have HE10 := hide h10
  clear e hnl hm1 hm2 hc8 h1 h2 h3 h4 h5 h6 h7 h8 h9 h10
  have al1 := (Below.refl w.heap.size w).alloc (Nat.le_refl _) (.cells #[.string ⟨#[]⟩, .slice none 0 0, .slice none 0 0, .slice none 0 0] 26)
  have al := al1.alloc (by simp) (.cells #[.string ⟨#[]⟩, .slice none 0 0, .slice none 0 0, .slice none 0 0] 26)
  have n1 := heap_alloc_new w (.cells #[.string ⟨#[]⟩, .slice none 0 0, .slice none 0 0, .slice none 0 0] 26)
  have n2 := heap_alloc_new (w.alloc (.cells #[.string ⟨#[]⟩, .slice none 0 0, .slice none 0 0, .slice none 0 0] 26)) (.cells #[.string ⟨#[]⟩, .slice none 0 0, .slice none 0 0, .slice none 0 0] 26)
  rw [World.size_alloc] at n2
  have HC : Hid (K0 w ((w.alloc (.cells #[.string ⟨#[]⟩, .slice none 0 0, .slice none 0 0, .slice none 0 0] 26)).alloc (.cells #[.string ⟨#[]⟩, .slice none 0 0, .slice none 0 0, .slice none 0 0] 26)) g ao cap l s 26 #[.string ⟨#[]⟩, .slice none 0 0, .slice none 0 0, .slice none 0 0]) := hide ⟨h.below al, grown_of_below al _, (((Below.refl _ _).alloc (Nat.le_refl _) _).block w.heap.size (by simp)).trans n1, bat_lt h.bts, h.lt, by simp⟩
  have HB : Hid (Bx ((w.alloc (.cells #[.string ⟨#[]⟩, .slice none 0 0, .slice none 0 0, .slice none 0 0] 26)).alloc (.cells #[.string ⟨#[]⟩, .slice none 0 0, .slice none 0 0, .slice none 0 0] 26)) (w.heap.size + 1) 26 #[.string ⟨#[]⟩, .slice none 0 0, .slice none 0 0, .slice none 0 0]) := hide n2
  have hgl : g < w.heap.size := h.lt
  have mixed := mixedT
  clear al1 al n1 n2 h
  go_enter Tryz.func37, Tryz.ntmps37
  go_upto_region 2 with fail
  generalize ((w.alloc (.cells #[.string ⟨#[]⟩, .slice none 0 0, .slice none 0 0, .slice none 0 0] 26)).alloc (.cells #[.string ⟨#[]⟩, .slice none 0 0, .slice none 0 0, .slice none 0 0] 26)) = W1 at HC HB ⊢
  obtain ⟨gc, HGE⟩ : ∃ gc, w.heap.size + 1 = gc := ⟨_, rfl⟩
  rw [HGE] at HB ⊢
  have HGC : Hid (w.heap.size < gc ∧ gc < W1.heap.size) := hide ⟨by omega, (unhide HB).lt⟩
  clear HGE
  have HK := hide (cu_nameE (unhide HC).cu (unhide HE1))
  go_wp2_with fail
  refine (unhide HK).mono ?_
  rintro e W2 ⟨rfl, hc, hg⟩
  have HC2 := hide ((unhide HC).step hc hg)
  have HB2 := hide (box_step (unhide HB) hg (by have := (unhide HGC).1; omega))
  have HGC2 : Hid (w.heap.size < gc ∧ gc < W2.heap.size) := hide ⟨(unhide HGC).1, Nat.lt_of_lt_of_le (unhide HGC).2 hg.size⟩
  clear hc hg HK HC HB
  have HGC := HGC2
  clear HGC2
  have q2 := (unhide HB2).c 0 rfl
  have f2 := (unhide HB2).f 0
  go_upto_region 3 with fail
  have hgs := grownBy_set W2 gc 0 (.string ⟨nm.toArray⟩)
  have HC3 := hide ((unhide HC2).own hgs (by have := unhide HGC; omega))
  have HB3 : Hid (Bx (W2.setCell ⟨gc, 0, none⟩ (.string ⟨nm.toArray⟩)) gc 26 #[.string ⟨nm.toArray⟩, .slice none 0 0, .slice none 0 0, .slice none 0 0]) := hide ((unhide HB2).set 0 _ rfl)
  have HGC3 : Hid (w.heap.size < gc ∧ gc < (W2.setCell ⟨gc, 0, none⟩ (.string ⟨nm.toArray⟩)).heap.size) := hide ⟨(unhide HGC).1, (unhide HB3).lt⟩
  clear q2 f2 hgs HC2 HB2 HGC
  have HGC := HGC3
  clear HGC3
  generalize W2.setCell ⟨gc, 0, none⟩ (.string ⟨nm.toArray⟩) = W3 at HC3 HB3 HGC ⊢
  have HK := hide (cu_countE (unhide HC3).cu (unhide HE2))
  go_wp2_with fail
  refine (unhide HK).mono ?_
  rintro e W7 ⟨rfl, hc, hg⟩
  have HC7 := hide ((unhide HC3).step hc hg)
  have HB7 := hide (box_step (unhide HB3) hg (by have := (unhide HGC).1; omega))
  have HGC7 : Hid (w.heap.size < gc ∧ gc < W7.heap.size) := hide ⟨(unhide HGC).1, Nat.lt_of_lt_of_le (unhide HGC).2 hg.size⟩
  clear hc hg HK HC3 HB3
  have HGC := HGC7
  clear HGC7
  obtain ⟨b1, HBS⟩ : ∃ b1, b1 = W7.heap.size := ⟨_, rfl⟩
  have HLO : Hid (w.heap.size < gc ∧ gc < b1) := hide ⟨(unhide HGC).1, by have := (unhide HGC).2; omega⟩
  have HL7 : Hid (b1 ≤ W7.heap.size) := hide (by omega)
  clear HBS
  go_wp2_with fail
  go_loopw [5] (fun i wr => ∃ (q : Nat) (M : List Cl) (st : Cs) (v : Value), q ≤ m1 ∧ i = .int .i64 (q : Int) ∧ Hid (K0 w wr g ao cap l st 26 #[.string ⟨#[]⟩, .slice none 0 0, .slice none 0 0, .slice none 0 0]) ∧ Hid (Bx wr gc 26 #[.string ⟨nm.toArray⟩, v, .slice none 0 0, .slice none 0 0]) ∧ Hid (Bld clN wr b1 v M) ∧ Hid (b1 ≤ wr.heap.size) ∧ Hid (M.length = q) ∧ Hid ((M.map clC ++ (repS clS (m1 - q) l st).1, (repS clS (m1 - q) l st).2) = (Tz, u3))) (fun i _ => m1 - (intOf i).toNat)
  case atStart => exact ⟨0, [], u2, .slice none 0 0, by omega, rfl, HC7, HB7, hide (Bld.nil _ _ _), HL7, hide rfl, hide (rep0 (unhide HR1))⟩
  case round =>
    clear HC7 HB7 HL7
    obtain ⟨qq1, M, st, v, hqq1, rfl, HC101, HB101, HD101, HL101, HML, HRP⟩ := hrel
    have c3 := (unhide HC101).cu.bx.c 3 rfl
    go_upto_region 5 with fail
    go_cut [24] (fun c wx => ∃ p : Bool, c = .bool p ∧ Hid (p = decide (qq1 < m1 ∧ st.why = 0)) ∧ Hid (K0 w wx g ao cap l st 26 #[.string ⟨#[]⟩, .slice none 0 0, .slice none 0 0, .slice none 0 0]) ∧ Hid (Bx wx gc 26 #[.string ⟨nm.toArray⟩, v, .slice none 0 0, .slice none 0 0]) ∧ Hid (Bld clN wx b1 v M) ∧ Hid (b1 ≤ wx.heap.size))
    case first =>
      by_cases hlt : qq1 < m1
      · have i1 : ((qq1 : Nat) : Int) < ((m1 : Nat) : Int) := by omega
        by_cases h0 : st.why = 0
        · have t0 : (st.why == 0) = true := beq_t h0
          have HP : Hid (true = decide (qq1 < m1 ∧ st.why = 0)) := hide (by symm; rw [decide_eq_true_iff]; exact ⟨hlt, h0⟩)
          clear h0 hlt
          go_wp2
          go_meet
          exact ⟨true, rfl, HP, HC101, HB101, HD101, HL101⟩
        · have t0 : (st.why == 0) = false := beq_f h0
          have HP : Hid (false = decide (qq1 < m1 ∧ st.why = 0)) := hide (by symm; rw [decide_eq_false_iff_not]; rintro ⟨_, h⟩; exact h0 h)
          clear h0 hlt
          go_wp2
          go_meet
          exact ⟨false, rfl, HP, HC101, HB101, HD101, HL101⟩
      · have i1 : ¬ ((qq1 : Nat) : Int) < ((m1 : Nat) : Int) := by omega
        have HP : Hid (false = decide (qq1 < m1 ∧ st.why = 0)) := hide (by symm; rw [decide_eq_false_iff_not]; rintro ⟨h, _⟩; exact hlt h)
        clear hlt
        go_wp2
        go_meet
        exact ⟨false, rfl, HP, HC101, HB101, HD101, HL101⟩
    case rest =>
    clear HC101 HB101 HD101 HL101 c3
    obtain ⟨p, rfl, HP, HC102, HB102, HD102, HL102⟩ := hcut
    rename World => wr
    cases p with
    | true =>
      obtain ⟨hlt, h0⟩ := of_decide_eq_true (unhide HP).symm
      have HW0 := hide h0
      have i1 : ((qq1 : Nat) : Int) < ((m1 : Nat) : Int) := by omega
      obtain ⟨r, HRE⟩ : ∃ r, Hid (m1 - qq1 = r + 1) := ⟨m1 - qq1 - 1, hide (by omega)⟩
      obtain ⟨va, vc, rfl⟩ := (unhide HD102).slice
      have HVL : Hid (∀ x, (Value.slice va M.length vc).ownBlock = some x → b1 ≤ x) := hide (fun x e => (World.ownsRow.lt (unhide HD102).own x e).1)
      have hmb := unhide HM1
      clear h0 HP
      rw [unhide HRE] at HRP
      go_upto_region 7 with fail
      refine wp_region_held_drew (S := fun _ => True) mixed trivial (fun hS => ?_)
      have hdw : Below wr.heap.size wr wr.drew := Below.drew (Below.refl _ _)
      have HC103 := hide ((unhide HC102).below hdw)
      have HB103 := hide ((unhide HB102).below hdw)
      have HD103 := hide ((unhide HD102).below hdw)
      have HL103 : Hid (b1 ≤ wr.drew.heap.size) := hide (unhide HL102)
      clear hdw HC102 HB102 HD102 HL102
      generalize wr.drew = Wd at HC103 HB103 HD103 HL103 ⊢
      refine wpAnyH_take (i := 0) (v := .pointer (some ⟨gc, 1, none⟩)) rfl (by kernel_rfl) (by kernel_rfl) (by kernel_rfl) (fun _ _ _ h => h) (Or.inl ⟨by rfl, fun W _ => by go_simp⟩) hS ?_
      go_simp
      refine wpAnyH_take (i := 2) (v := .pointer (some ⟨g, 0, none⟩)) rfl (by kernel_rfl) (by kernel_rfl) (by kernel_rfl) (fun _ _ _ h => h) (Or.inl ⟨by rfl, fun W _ => by go_simp⟩) hS ?_
      go_simp
      refine wpAnyH_ready (rs := [1, 3]) (by kernel_rfl) (by simp) ?_
      refine AllReadyH.cons rfl (fun KK hK => ?_) ?_
      · have q2 := (unhide HB103).c 1 rfl
        go_simp
        refine hK.out _ _ trivial (fun hS => ?_)
        clear hK KK q2
        refine wpAnyH_ready (rs := [3]) (by kernel_rfl) (by simp) ?_
        refine AllReadyH.cons rfl (fun KK hK => ?_) AllReadyH.nil
        go_simp
        obtain ⟨⟨z, s7⟩, hby⟩ : ∃ r, clS l st = r := ⟨_, rfl⟩
        have HFD := hide hby
        have HK := hide (cu_classE (unhide HC103).cu hby)
        refine (unhide HK).mono ?_
        rintro e W105 ⟨y, rfl, hyc, hyo, hya, hc, hg⟩
        have HYC := hide hyc
        have HYO := hide hyo
        have HYL : Hid (clN.all (fun b => b1 ≤ b) y) := hide (clN.mono (fun b hb => Nat.le_trans (unhide HL103) hb) hya)
        have HYN : Hid (∀ x, (Value.slice va M.length vc).ownBlock = some x → clN.all (fun b => b ≠ x) y) := hide (fun x e => clN.mono (fun b hb => by have := (World.ownsRow.lt (unhide HD103).own x e).2; omega) hya)
        have HC105 := hide ((unhide HC103).step hc hg)
        have HB105 := hide (box_step (unhide HB103) hg (by have := (unhide HGC); omega))
        have HD105 := hide ((unhide HD103).box hg (by have := (unhide HLO); omega))
        have HL105 : Hid (b1 ≤ W105.heap.size) := hide (Nat.le_trans (unhide HL103) hg.size)
        refine hK.out _ _ trivial (fun hS => ?_)
        clear hK KK HK hc hg hby hyc hyo hya HC103 HB103 HD103 HL103
        refine wpAnyH_ready (rs := [4]) (by kernel_rfl) (by simp) ?_
        refine AllReadyH.cons rfl (fun KK hK => ?_) AllReadyH.nil
        go_simp
        have HBA106 := hide ((unhide HB105).below ((Below.refl W105.heap.size W105).alloc (Nat.le_refl _) (.cells #[.string y.nm, .int .i64 y.par, .slice y.fo y.fs.length y.fc] 80)))
        refine hK.out _ _ trivial (fun hS => ?_)
        clear hK KK
        refine wpAnyH_ready (rs := [5]) (by kernel_rfl) (by simp) ?_
        refine AllReadyH.cons rfl (fun KK hK => ?_) AllReadyH.nil
        refine step_append_lies _ (by rfl) _ _ 22 (by rfl) b1 80 in1 _ 3 48 Tryz.underlying22 hi1 hz10 hz11 hz12 rfl (by omega) (.slice va M.length vc) M.length (vals clN M) (by rfl) (rowBelow (unhide HD105).own ((Below.refl _ _).alloc (Nat.le_refl _) _)) ⟨W105.heap.size, 0, none⟩ 1 1 (clN.cells y) (by rfl) (by rfl) (World.news_of_block (cs := #[.string y.nm, .int .i64 y.par, .slice y.fo y.fs.length y.fc]) (t := 80) (fr := (0, 0)) (heap_alloc_new W105 _)) (fun u hu => by simp [clN] at hu; rcases hu with rfl | rfl | rfl <;> rfl) (by omega) (by have := unhide HML; have := unhide HM1; unfold maxLen; omega) (by have := unhide HML; have := unhide HM1; omega) (by rw [World.size_alloc]; have := unhide HL105; omega) (W105.heap.size + 1) (by simp) ?_
        intro g3 cap3 W107 hown hgrow hat hlt3
        have al : Below W105.heap.size W105 (W105.alloc (.cells #[.string y.nm, .int .i64 y.par, .slice y.fo y.fs.length y.fc] 80)) := (Below.refl _ _).alloc (Nat.le_refl _) _
        have HD107 : Hid (Bld clN W107 b1 (.slice (some ⟨g3, 0, none⟩) (M.length + 1) cap3) (M ++ [y])) := hide ((unhide HD105).snoc (y := y) (unhide HYO) (unhide HYL) (unhide HYN) hown hgrow hat)
        have HC107 := hide (((unhide HC105).below al).row hgrow (fun x e => by have := unhide HVL x e; have := unhide HLO; omega))
        have HB107 := hide (((unhide HB105).below al).grown hgrow (fun e => by have := unhide HVL gc e; have := unhide HLO; omega))
        have HL107 : Hid (b1 ≤ W107.heap.size) := hide (by have := hgrow.size; rw [World.size_alloc] at this; have := unhide HL105; omega)
        refine hK.out _ _ trivial (fun hS => ?_)
        clear hK KK hown hgrow hat hlt3 al HC105 HB105 HD105 HL105
        refine wpAnyH_take (i := 6) (v := .pointer (some ⟨gc, 1, none⟩)) rfl (by kernel_rfl) (by kernel_rfl) (by kernel_rfl) (fun _ _ _ h => h) (Or.inl ⟨by rfl, fun W _ => by go_simp⟩) hS ?_
        go_simp
        refine wpAnyH_ready (rs := [7]) (by kernel_rfl) (by simp) ?_
        refine AllReadyH.cons rfl (fun KK hK => ?_) AllReadyH.nil
        have q2 := (unhide HB107).c 1 rfl
        have f2 := (unhide HB107).f 1
        go_simp
        have hgs := grownBy_set W107 gc 1 (.slice (some ⟨g3, 0, none⟩) (M.length + 1) cap3)
        have HCn := hide ((unhide HC107).own hgs (by have := (unhide HLO); omega))
        have HBn : Hid (Bx (W107.setCell ⟨gc, 1, none⟩ (.slice (some ⟨g3, 0, none⟩) (M.length + 1) cap3)) gc 26 #[.string ⟨nm.toArray⟩, .slice (some ⟨g3, 0, none⟩) (M.length + 1) cap3, .slice none 0 0, .slice none 0 0]) := hide ((unhide HB107).set 1 _ rfl)
        have HDn := hide ((unhide HD107).box hgs (by have := unhide HLO; omega))
        have HLn : Hid (b1 ≤ (W107.setCell ⟨gc, 1, none⟩ (.slice (some ⟨g3, 0, none⟩) (M.length + 1) cap3)).heap.size) := hide (Nat.le_trans (unhide HL107) hgs.size)
        have HMn : Hid ((M ++ [y]).length = qq1 + 1) := hide (by rw [List.length_append, unhide HML]; rfl)
        have HRn : Hid (((M ++ [y]).map clC ++ (repS clS (m1 - (qq1 + 1)) l s7).1, (repS clS (m1 - (qq1 + 1)) l s7).2) = (Tz, u3)) := hide (by
          rw [← unhide HRP, rep_step (M.map clC) (unhide HW0) (unhide HFD), show m1 - (qq1 + 1) = r by have := unhide HRE; omega, List.map_append, List.map_cons, List.map_nil, unhide HYC])
        clear q2 f2 hgs HC107 HB107 HD107 HL107 HRP HML
        refine hK.out _ _ trivial (fun hS => ?_)
        clear hK KK hS
        refine wpAnyH_done (by kernel_rfl) ?_ _
        go_wp2
        go_roundw
        case rel => exact ⟨qq1 + 1, _, s7, _, by omega, by go_num, HCn, HBn, HDn, HLn, HMn, HRn⟩
        case measure => simp [intOf]; omega
      · refine AllReadyH.cons rfl (fun KK hK => ?_) AllReadyH.nil
        go_simp
        obtain ⟨⟨z, s7⟩, hby⟩ : ∃ r, clS l st = r := ⟨_, rfl⟩
        have HFD := hide hby
        have HK := hide (cu_classE (unhide HC103).cu hby)
        refine (unhide HK).mono ?_
        rintro e W108 ⟨y, rfl, hyc, hyo, hya, hc, hg⟩
        have HYC := hide hyc
        have HYO := hide hyo
        have HYL : Hid (clN.all (fun b => b1 ≤ b) y) := hide (clN.mono (fun b hb => Nat.le_trans (unhide HL103) hb) hya)
        have HYN : Hid (∀ x, (Value.slice va M.length vc).ownBlock = some x → clN.all (fun b => b ≠ x) y) := hide (fun x e => clN.mono (fun b hb => by have := (World.ownsRow.lt (unhide HD103).own x e).2; omega) hya)
        have HC108 := hide ((unhide HC103).step hc hg)
        have HB108 := hide (box_step (unhide HB103) hg (by have := (unhide HGC); omega))
        have HD108 := hide ((unhide HD103).box hg (by have := (unhide HLO); omega))
        have HL108 : Hid (b1 ≤ W108.heap.size) := hide (Nat.le_trans (unhide HL103) hg.size)
        refine hK.out _ _ trivial (fun hS => ?_)
        clear hK KK HK hc hg hby hyc hyo hya HC103 HB103 HD103 HL103
        refine wpAnyH_ready (rs := [1, 4]) (by kernel_rfl) (by simp) ?_
        refine AllReadyH.cons rfl (fun KK hK => ?_) ?_
        · have q2 := (unhide HB108).c 1 rfl
          go_simp
          refine hK.out _ _ trivial (fun hS => ?_)
          clear hK KK q2
          refine wpAnyH_ready (rs := [4]) (by kernel_rfl) (by simp) ?_
          refine AllReadyH.cons rfl (fun KK hK => ?_) AllReadyH.nil
          go_simp
          have HBA110 := hide ((unhide HB108).below ((Below.refl W108.heap.size W108).alloc (Nat.le_refl _) (.cells #[.string y.nm, .int .i64 y.par, .slice y.fo y.fs.length y.fc] 80)))
          refine hK.out _ _ trivial (fun hS => ?_)
          clear hK KK
          refine wpAnyH_ready (rs := [5]) (by kernel_rfl) (by simp) ?_
          refine AllReadyH.cons rfl (fun KK hK => ?_) AllReadyH.nil
          refine step_append_lies _ (by rfl) _ _ 22 (by rfl) b1 80 in1 _ 3 48 Tryz.underlying22 hi1 hz10 hz11 hz12 rfl (by omega) (.slice va M.length vc) M.length (vals clN M) (by rfl) (rowBelow (unhide HD108).own ((Below.refl _ _).alloc (Nat.le_refl _) _)) ⟨W108.heap.size, 0, none⟩ 1 1 (clN.cells y) (by rfl) (by rfl) (World.news_of_block (cs := #[.string y.nm, .int .i64 y.par, .slice y.fo y.fs.length y.fc]) (t := 80) (fr := (0, 0)) (heap_alloc_new W108 _)) (fun u hu => by simp [clN] at hu; rcases hu with rfl | rfl | rfl <;> rfl) (by omega) (by have := unhide HML; have := unhide HM1; unfold maxLen; omega) (by have := unhide HML; have := unhide HM1; omega) (by rw [World.size_alloc]; have := unhide HL108; omega) (W108.heap.size + 1) (by simp) ?_
          intro g3 cap3 W111 hown hgrow hat hlt3
          have al : Below W108.heap.size W108 (W108.alloc (.cells #[.string y.nm, .int .i64 y.par, .slice y.fo y.fs.length y.fc] 80)) := (Below.refl _ _).alloc (Nat.le_refl _) _
          have HD111 : Hid (Bld clN W111 b1 (.slice (some ⟨g3, 0, none⟩) (M.length + 1) cap3) (M ++ [y])) := hide ((unhide HD108).snoc (y := y) (unhide HYO) (unhide HYL) (unhide HYN) hown hgrow hat)
          have HC111 := hide (((unhide HC108).below al).row hgrow (fun x e => by have := unhide HVL x e; have := unhide HLO; omega))
          have HB111 := hide (((unhide HB108).below al).grown hgrow (fun e => by have := unhide HVL gc e; have := unhide HLO; omega))
          have HL111 : Hid (b1 ≤ W111.heap.size) := hide (by have := hgrow.size; rw [World.size_alloc] at this; have := unhide HL108; omega)
          refine hK.out _ _ trivial (fun hS => ?_)
          clear hK KK hown hgrow hat hlt3 al HC108 HB108 HD108 HL108
          refine wpAnyH_take (i := 6) (v := .pointer (some ⟨gc, 1, none⟩)) rfl (by kernel_rfl) (by kernel_rfl) (by kernel_rfl) (fun _ _ _ h => h) (Or.inl ⟨by rfl, fun W _ => by go_simp⟩) hS ?_
          go_simp
          refine wpAnyH_ready (rs := [7]) (by kernel_rfl) (by simp) ?_
          refine AllReadyH.cons rfl (fun KK hK => ?_) AllReadyH.nil
          have q2 := (unhide HB111).c 1 rfl
          have f2 := (unhide HB111).f 1
          go_simp
          have hgs := grownBy_set W111 gc 1 (.slice (some ⟨g3, 0, none⟩) (M.length + 1) cap3)
          have HCn := hide ((unhide HC111).own hgs (by have := (unhide HLO); omega))
          have HBn : Hid (Bx (W111.setCell ⟨gc, 1, none⟩ (.slice (some ⟨g3, 0, none⟩) (M.length + 1) cap3)) gc 26 #[.string ⟨nm.toArray⟩, .slice (some ⟨g3, 0, none⟩) (M.length + 1) cap3, .slice none 0 0, .slice none 0 0]) := hide ((unhide HB111).set 1 _ rfl)
          have HDn := hide ((unhide HD111).box hgs (by have := unhide HLO; omega))
          have HLn : Hid (b1 ≤ (W111.setCell ⟨gc, 1, none⟩ (.slice (some ⟨g3, 0, none⟩) (M.length + 1) cap3)).heap.size) := hide (Nat.le_trans (unhide HL111) hgs.size)
          have HMn : Hid ((M ++ [y]).length = qq1 + 1) := hide (by rw [List.length_append, unhide HML]; rfl)
          have HRn : Hid (((M ++ [y]).map clC ++ (repS clS (m1 - (qq1 + 1)) l s7).1, (repS clS (m1 - (qq1 + 1)) l s7).2) = (Tz, u3)) := hide (by
            rw [← unhide HRP, rep_step (M.map clC) (unhide HW0) (unhide HFD), show m1 - (qq1 + 1) = r by have := unhide HRE; omega, List.map_append, List.map_cons, List.map_nil, unhide HYC])
          clear q2 f2 hgs HC111 HB111 HD111 HL111 HRP HML
          refine hK.out _ _ trivial (fun hS => ?_)
          clear hK KK hS
          refine wpAnyH_done (by kernel_rfl) ?_ _
          go_wp2
          go_roundw
          case rel => exact ⟨qq1 + 1, _, s7, _, by omega, by go_num, HCn, HBn, HDn, HLn, HMn, HRn⟩
          case measure => simp [intOf]; omega
        · refine AllReadyH.cons rfl (fun KK hK => ?_) AllReadyH.nil
          go_simp
          have HBA112 := hide ((unhide HB108).below ((Below.refl W108.heap.size W108).alloc (Nat.le_refl _) (.cells #[.string y.nm, .int .i64 y.par, .slice y.fo y.fs.length y.fc] 80)))
          refine hK.out _ _ trivial (fun hS => ?_)
          clear hK KK
          refine wpAnyH_ready (rs := [1]) (by kernel_rfl) (by simp) ?_
          refine AllReadyH.cons rfl (fun KK hK => ?_) AllReadyH.nil
          have q2 := (unhide HBA112).c 1 rfl
          go_simp
          refine hK.out _ _ trivial (fun hS => ?_)
          clear hK KK q2
          refine wpAnyH_ready (rs := [5]) (by kernel_rfl) (by simp) ?_
          refine AllReadyH.cons rfl (fun KK hK => ?_) AllReadyH.nil
          refine step_append_lies _ (by rfl) _ _ 22 (by rfl) b1 80 in1 _ 3 48 Tryz.underlying22 hi1 hz10 hz11 hz12 rfl (by omega) (.slice va M.length vc) M.length (vals clN M) (by rfl) (rowBelow (unhide HD108).own ((Below.refl _ _).alloc (Nat.le_refl _) _)) ⟨W108.heap.size, 0, none⟩ 1 1 (clN.cells y) (by rfl) (by rfl) (World.news_of_block (cs := #[.string y.nm, .int .i64 y.par, .slice y.fo y.fs.length y.fc]) (t := 80) (fr := (0, 0)) (heap_alloc_new W108 _)) (fun u hu => by simp [clN] at hu; rcases hu with rfl | rfl | rfl <;> rfl) (by omega) (by have := unhide HML; have := unhide HM1; unfold maxLen; omega) (by have := unhide HML; have := unhide HM1; omega) (by rw [World.size_alloc]; have := unhide HL108; omega) (W108.heap.size + 1) (by simp) ?_
          intro g3 cap3 W114 hown hgrow hat hlt3
          have al : Below W108.heap.size W108 (W108.alloc (.cells #[.string y.nm, .int .i64 y.par, .slice y.fo y.fs.length y.fc] 80)) := (Below.refl _ _).alloc (Nat.le_refl _) _
          have HD114 : Hid (Bld clN W114 b1 (.slice (some ⟨g3, 0, none⟩) (M.length + 1) cap3) (M ++ [y])) := hide ((unhide HD108).snoc (y := y) (unhide HYO) (unhide HYL) (unhide HYN) hown hgrow hat)
          have HC114 := hide (((unhide HC108).below al).row hgrow (fun x e => by have := unhide HVL x e; have := unhide HLO; omega))
          have HB114 := hide (((unhide HB108).below al).grown hgrow (fun e => by have := unhide HVL gc e; have := unhide HLO; omega))
          have HL114 : Hid (b1 ≤ W114.heap.size) := hide (by have := hgrow.size; rw [World.size_alloc] at this; have := unhide HL108; omega)
          refine hK.out _ _ trivial (fun hS => ?_)
          clear hK KK hown hgrow hat hlt3 al HC108 HB108 HD108 HL108
          refine wpAnyH_take (i := 6) (v := .pointer (some ⟨gc, 1, none⟩)) rfl (by kernel_rfl) (by kernel_rfl) (by kernel_rfl) (fun _ _ _ h => h) (Or.inl ⟨by rfl, fun W _ => by go_simp⟩) hS ?_
          go_simp
          refine wpAnyH_ready (rs := [7]) (by kernel_rfl) (by simp) ?_
          refine AllReadyH.cons rfl (fun KK hK => ?_) AllReadyH.nil
          have q2 := (unhide HB114).c 1 rfl
          have f2 := (unhide HB114).f 1
          go_simp
          have hgs := grownBy_set W114 gc 1 (.slice (some ⟨g3, 0, none⟩) (M.length + 1) cap3)
          have HCn := hide ((unhide HC114).own hgs (by have := (unhide HLO); omega))
          have HBn : Hid (Bx (W114.setCell ⟨gc, 1, none⟩ (.slice (some ⟨g3, 0, none⟩) (M.length + 1) cap3)) gc 26 #[.string ⟨nm.toArray⟩, .slice (some ⟨g3, 0, none⟩) (M.length + 1) cap3, .slice none 0 0, .slice none 0 0]) := hide ((unhide HB114).set 1 _ rfl)
          have HDn := hide ((unhide HD114).box hgs (by have := unhide HLO; omega))
          have HLn : Hid (b1 ≤ (W114.setCell ⟨gc, 1, none⟩ (.slice (some ⟨g3, 0, none⟩) (M.length + 1) cap3)).heap.size) := hide (Nat.le_trans (unhide HL114) hgs.size)
          have HMn : Hid ((M ++ [y]).length = qq1 + 1) := hide (by rw [List.length_append, unhide HML]; rfl)
          have HRn : Hid (((M ++ [y]).map clC ++ (repS clS (m1 - (qq1 + 1)) l s7).1, (repS clS (m1 - (qq1 + 1)) l s7).2) = (Tz, u3)) := hide (by
            rw [← unhide HRP, rep_step (M.map clC) (unhide HW0) (unhide HFD), show m1 - (qq1 + 1) = r by have := unhide HRE; omega, List.map_append, List.map_cons, List.map_nil, unhide HYC])
          clear q2 f2 hgs HC114 HB114 HD114 HL114 HRP HML
          refine hK.out _ _ trivial (fun hS => ?_)
          clear hK KK hS
          refine wpAnyH_done (by kernel_rfl) ?_ _
          go_wp2
          go_roundw
          case rel => exact ⟨qq1 + 1, _, s7, _, by omega, by go_num, HCn, HBn, HDn, HLn, HMn, HRn⟩
          case measure => simp [intOf]; omega
    | false =>
      have hno := of_decide_eq_false (unhide HP).symm
      have hrr : (M.map clC, st) = (Tz, u3) := by
        rw [← unhide HRP]
        by_cases h0 : st.why = 0
        · rw [show m1 - qq1 = 0 by
            by_cases hlt : qq1 < m1
            · exact absurd ⟨hlt, h0⟩ hno
            · omega]
          exact (rep_done _).symm
        · exact (rep_stop _ h0).symm
      have HNO := hide hno
      clear HRP HP hno
      injection hrr with hr1 hr2
      have HMQ : Hid (M.length ≤ m1) := hide (by have := unhide HML; omega)
      have HMZ : Hid (st.why = 0 → M.length = m1) := hide (fun h0 => by have := unhide HML; have hh := unhide HNO; by_cases hlt : qq1 < m1; exact absurd ⟨hlt, h0⟩ hh; omega)
      clear HNO
      obtain ⟨xa, xc, hv, hrow, hall, hnil, hcap⟩ := (unhide HD102).outC
      subst hv
      obtain ⟨ta, HE1x⟩ : ∃ t, t = xa := ⟨_, rfl⟩
      obtain ⟨tc, HE2x⟩ : ∃ t, t = xc := ⟨_, rfl⟩
      obtain ⟨T, HE3x⟩ : ∃ t, t = M := ⟨_, rfl⟩
      subst HE1x HE2x HE3x
      have HTM := HMQ
      have HTZ : Hid (T.map clC = Tz) := hide hr1
      have HCT := hide hcap
      have HCx : Hid (K0 w wr g ao cap l u3 26 #[.string ⟨#[]⟩, .slice none 0 0, .slice none 0 0, .slice none 0 0]) := hide (by rw [← hr2]; exact unhide HC102)
      clear HML hr1 hr2 HC102 HMZ
      have HK := hide (cu_countE (unhide HCx).cu (unhide HE4))
      go_wp2_with fail
      refine (unhide HK).mono ?_
      rintro e W6 ⟨rfl, hc, hg⟩
      have HC6 := hide ((unhide HCx).step hc hg)
      have HB6 := hide (box_step (unhide HB102) hg (by have := (unhide HLO); omega))
      have hrow6 := hrow.far hg (RowAll.mono (fun b hb => by have := unhide HLO; omega) hall)
      obtain ⟨b2, HBS⟩ : ∃ b2, b2 = W6.heap.size := ⟨_, rfl⟩
      have HLOn : Hid (w.heap.size < gc ∧ gc < b1 ∧ b1 ≤ b2) := hide ⟨(unhide HLO).1, (unhide HLO).2, by have := unhide HL102; have := hg.size; omega⟩
      have HAT : Hid (RowAll clN (fun b => b1 ≤ b ∧ b < b2) ta T) := hide (hrow6.span hall (by omega) cl_both)
      have HRT6 := hide hrow6
      have HL6 : Hid (b2 ≤ W6.heap.size) := hide (by omega)
      clear hc hg HK HCx HB102 HD102 HL102 hrow hall hrow6 HBS hnil hcap HLO
      have HLO := HLOn
      clear HLOn
      go_wp2_with fail
      go_loopw [6] (fun i wr => ∃ (q : Nat) (M : List Fn) (st : Cs) (v : Value), q ≤ m2 ∧ i = .int .i64 (q : Int) ∧ Hid (K0 w wr g ao cap l st 26 #[.string ⟨#[]⟩, .slice none 0 0, .slice none 0 0, .slice none 0 0]) ∧ Hid (Bx wr gc 26 #[.string ⟨nm.toArray⟩, .slice ta T.length tc, v, .slice none 0 0]) ∧ Hid (Bld fnN wr b2 v M) ∧ Hid (b2 ≤ wr.heap.size) ∧ Hid (M.length = q) ∧ Hid ((M.map fnC ++ (repS fnS (m2 - q) l st).1, (repS fnS (m2 - q) l st).2) = (Fz, u5)) ∧ Hid (RowAt clN wr ta T)) (fun i _ => m2 - (intOf i).toNat)
      case atStart => exact ⟨0, [], u4, .slice none 0 0, by omega, rfl, HC6, HB6, hide (Bld.nil _ _ _), HL6, hide rfl, hide (rep0 (unhide HR2)), HRT6⟩
      case round =>
        clear HC6 HB6 HL6 HRT6
        obtain ⟨qq2, M, st, v, hqq2, rfl, HC115, HB115, HD115, HL115, HML, HRP, HRT115⟩ := hrel
        have c3 := (unhide HC115).cu.bx.c 3 rfl
        go_upto_region 10 with fail
        go_cut [45] (fun c wx => ∃ p : Bool, c = .bool p ∧ Hid (p = decide (qq2 < m2 ∧ st.why = 0)) ∧ Hid (K0 w wx g ao cap l st 26 #[.string ⟨#[]⟩, .slice none 0 0, .slice none 0 0, .slice none 0 0]) ∧ Hid (Bx wx gc 26 #[.string ⟨nm.toArray⟩, .slice ta T.length tc, v, .slice none 0 0]) ∧ Hid (Bld fnN wx b2 v M) ∧ Hid (b2 ≤ wx.heap.size) ∧ Hid (RowAt clN wx ta T))
        case first =>
          by_cases hlt : qq2 < m2
          · have i1 : ((qq2 : Nat) : Int) < ((m2 : Nat) : Int) := by omega
            by_cases h0 : st.why = 0
            · have t0 : (st.why == 0) = true := beq_t h0
              have HP : Hid (true = decide (qq2 < m2 ∧ st.why = 0)) := hide (by symm; rw [decide_eq_true_iff]; exact ⟨hlt, h0⟩)
              clear h0 hlt
              go_wp2
              go_meet
              exact ⟨true, rfl, HP, HC115, HB115, HD115, HL115, HRT115⟩
            · have t0 : (st.why == 0) = false := beq_f h0
              have HP : Hid (false = decide (qq2 < m2 ∧ st.why = 0)) := hide (by symm; rw [decide_eq_false_iff_not]; rintro ⟨_, h⟩; exact h0 h)
              clear h0 hlt
              go_wp2
              go_meet
              exact ⟨false, rfl, HP, HC115, HB115, HD115, HL115, HRT115⟩
          · have i1 : ¬ ((qq2 : Nat) : Int) < ((m2 : Nat) : Int) := by omega
            have HP : Hid (false = decide (qq2 < m2 ∧ st.why = 0)) := hide (by symm; rw [decide_eq_false_iff_not]; rintro ⟨h, _⟩; exact hlt h)
            clear hlt
            go_wp2
            go_meet
            exact ⟨false, rfl, HP, HC115, HB115, HD115, HL115, HRT115⟩
        case rest =>
        clear HC115 HB115 HD115 HL115 c3 HRT115
        obtain ⟨p, rfl, HP, HC116, HB116, HD116, HL116, HRT116⟩ := hcut
        rename World => wr
        cases p with
        | true =>
          obtain ⟨hlt, h0⟩ := of_decide_eq_true (unhide HP).symm
          have HW0 := hide h0
          have i1 : ((qq2 : Nat) : Int) < ((m2 : Nat) : Int) := by omega
          obtain ⟨r, HRE⟩ : ∃ r, Hid (m2 - qq2 = r + 1) := ⟨m2 - qq2 - 1, hide (by omega)⟩
          obtain ⟨va, vc, rfl⟩ := (unhide HD116).slice
          have HVL : Hid (∀ x, (Value.slice va M.length vc).ownBlock = some x → b2 ≤ x) := hide (fun x e => (World.ownsRow.lt (unhide HD116).own x e).1)
          have hmb := unhide HM2
          clear h0 HP
          rw [unhide HRE] at HRP
          go_upto_region 12 with fail
          refine wp_region_held_drew (S := fun _ => True) mixed trivial (fun hS => ?_)
          have hdw : Below wr.heap.size wr wr.drew := Below.drew (Below.refl _ _)
          have HC117 := hide ((unhide HC116).below hdw)
          have HB117 := hide ((unhide HB116).below hdw)
          have HD117 := hide ((unhide HD116).below hdw)
          have HL117 : Hid (b2 ≤ wr.drew.heap.size) := hide (unhide HL116)
          have HRT117 := hide ((unhide HRT116).below hdw)
          clear hdw HC116 HB116 HD116 HL116 HRT116
          generalize wr.drew = Wd at HC117 HB117 HD117 HL117 HRT117 ⊢
          refine wpAnyH_take (i := 0) (v := .pointer (some ⟨gc, 2, none⟩)) rfl (by kernel_rfl) (by kernel_rfl) (by kernel_rfl) (fun _ _ _ h => h) (Or.inl ⟨by rfl, fun W _ => by go_simp⟩) hS ?_
          go_simp
          refine wpAnyH_take (i := 2) (v := .pointer (some ⟨g, 0, none⟩)) rfl (by kernel_rfl) (by kernel_rfl) (by kernel_rfl) (fun _ _ _ h => h) (Or.inl ⟨by rfl, fun W _ => by go_simp⟩) hS ?_
          go_simp
          refine wpAnyH_ready (rs := [1, 3]) (by kernel_rfl) (by simp) ?_
          refine AllReadyH.cons rfl (fun KK hK => ?_) ?_
          · have q2 := (unhide HB117).c 2 rfl
            go_simp
            refine hK.out _ _ trivial (fun hS => ?_)
            clear hK KK q2
            refine wpAnyH_ready (rs := [3]) (by kernel_rfl) (by simp) ?_
            refine AllReadyH.cons rfl (fun KK hK => ?_) AllReadyH.nil
            go_simp
            obtain ⟨⟨z, s7⟩, hby⟩ : ∃ r, fnS l st = r := ⟨_, rfl⟩
            have HFD := hide hby
            have HK := hide (cu_functionE (unhide HC117).cu hby)
            refine (unhide HK).mono ?_
            rintro e W119 ⟨y, rfl, hyc, hyo, hya, hc, hg⟩
            have HYC := hide hyc
            have HYO := hide hyo
            have HYL : Hid (fnN.all (fun b => b2 ≤ b) y) := hide (fnN.mono (fun b hb => Nat.le_trans (unhide HL117) hb) hya)
            have HYN : Hid (∀ x, (Value.slice va M.length vc).ownBlock = some x → fnN.all (fun b => b ≠ x) y) := hide (fun x e => fnN.mono (fun b hb => by have := (World.ownsRow.lt (unhide HD117).own x e).2; omega) hya)
            have HC119 := hide ((unhide HC117).step hc hg)
            have HB119 := hide (box_step (unhide HB117) hg (by have := (unhide HGC); omega))
            have HD119 := hide ((unhide HD117).box hg (by have := (unhide HLO); omega))
            have HL119 : Hid (b2 ≤ W119.heap.size) := hide (Nat.le_trans (unhide HL117) hg.size)
            have HRT119 := hide ((unhide HRT117).keep hg (unhide HAT) (fun x e => by injection e with e; have := unhide HLO; omega))
            refine hK.out _ _ trivial (fun hS => ?_)
            clear hK KK HK hc hg hby hyc hyo hya HC117 HB117 HD117 HL117 HRT117
            refine wpAnyH_ready (rs := [4]) (by kernel_rfl) (by simp) ?_
            refine AllReadyH.cons rfl (fun KK hK => ?_) AllReadyH.nil
            go_simp
            have HBA120 := hide ((unhide HB119).below ((Below.refl W119.heap.size W119).alloc (Nat.le_refl _) (.cells #[.string y.nm, .slice y.sg.po y.sg.ps.length y.sg.pc, .int .u8 (y.sg.rt : Int), .int .i64 y.lo, .slice y.ca y.cd.length y.cc] 44)))
            refine hK.out _ _ trivial (fun hS => ?_)
            clear hK KK
            refine wpAnyH_ready (rs := [5]) (by kernel_rfl) (by simp) ?_
            refine AllReadyH.cons rfl (fun KK hK => ?_) AllReadyH.nil
            refine step_append_lies _ (by rfl) _ _ 23 (by rfl) b2 44 in2 _ 5 80 Tryz.underlying23 hi2 hz20 hz21 hz22 rfl (by omega) (.slice va M.length vc) M.length (vals fnN M) (by rfl) (rowBelow (unhide HD119).own ((Below.refl _ _).alloc (Nat.le_refl _) _)) ⟨W119.heap.size, 0, none⟩ 1 1 (fnN.cells y) (by rfl) (by rfl) (World.news_of_block (cs := #[.string y.nm, .slice y.sg.po y.sg.ps.length y.sg.pc, .int .u8 (y.sg.rt : Int), .int .i64 y.lo, .slice y.ca y.cd.length y.cc]) (t := 44) (fr := (0, 0)) (heap_alloc_new W119 _)) (fun u hu => by simp [fnN] at hu; rcases hu with rfl | rfl | rfl | rfl | rfl <;> rfl) (by omega) (by have := unhide HML; have := unhide HM2; unfold maxLen; omega) (by have := unhide HML; have := unhide HM2; omega) (by rw [World.size_alloc]; have := unhide HL119; omega) (W119.heap.size + 1) (by simp) ?_
            intro g3 cap3 W121 hown hgrow hat hlt3
            have al : Below W119.heap.size W119 (W119.alloc (.cells #[.string y.nm, .slice y.sg.po y.sg.ps.length y.sg.pc, .int .u8 (y.sg.rt : Int), .int .i64 y.lo, .slice y.ca y.cd.length y.cc] 44)) := (Below.refl _ _).alloc (Nat.le_refl _) _
            have HD121 : Hid (Bld fnN W121 b2 (.slice (some ⟨g3, 0, none⟩) (M.length + 1) cap3) (M ++ [y])) := hide ((unhide HD119).snoc (y := y) (unhide HYO) (unhide HYL) (unhide HYN) hown hgrow hat)
            have HC121 := hide (((unhide HC119).below al).row hgrow (fun x e => by have := unhide HVL x e; have := unhide HLO; omega))
            have HB121 := hide (((unhide HB119).below al).grown hgrow (fun e => by have := unhide HVL gc e; have := unhide HLO; omega))
            have HL121 : Hid (b2 ≤ W121.heap.size) := hide (by have := hgrow.size; rw [World.size_alloc] at this; have := unhide HL119; omega)
            have HRT121 := hide (((unhide HRT119).below al).keep hgrow (unhide HAT) (fun x e => by have := unhide HVL x e; have := unhide HLO; omega))
            refine hK.out _ _ trivial (fun hS => ?_)
            clear hK KK hown hgrow hat hlt3 al HC119 HB119 HD119 HL119 HRT119
            refine wpAnyH_take (i := 6) (v := .pointer (some ⟨gc, 2, none⟩)) rfl (by kernel_rfl) (by kernel_rfl) (by kernel_rfl) (fun _ _ _ h => h) (Or.inl ⟨by rfl, fun W _ => by go_simp⟩) hS ?_
            go_simp
            refine wpAnyH_ready (rs := [7]) (by kernel_rfl) (by simp) ?_
            refine AllReadyH.cons rfl (fun KK hK => ?_) AllReadyH.nil
            have q2 := (unhide HB121).c 2 rfl
            have f2 := (unhide HB121).f 2
            go_simp
            have hgs := grownBy_set W121 gc 2 (.slice (some ⟨g3, 0, none⟩) (M.length + 1) cap3)
            have HCn := hide ((unhide HC121).own hgs (by have := (unhide HLO); omega))
            have HBn : Hid (Bx (W121.setCell ⟨gc, 2, none⟩ (.slice (some ⟨g3, 0, none⟩) (M.length + 1) cap3)) gc 26 #[.string ⟨nm.toArray⟩, .slice ta T.length tc, .slice (some ⟨g3, 0, none⟩) (M.length + 1) cap3, .slice none 0 0]) := hide ((unhide HB121).set 2 _ rfl)
            have HDn := hide ((unhide HD121).box hgs (by have := unhide HLO; omega))
            have HLn : Hid (b2 ≤ (W121.setCell ⟨gc, 2, none⟩ (.slice (some ⟨g3, 0, none⟩) (M.length + 1) cap3)).heap.size) := hide (Nat.le_trans (unhide HL121) hgs.size)
            have HMn : Hid ((M ++ [y]).length = qq2 + 1) := hide (by rw [List.length_append, unhide HML]; rfl)
            have HRn : Hid (((M ++ [y]).map fnC ++ (repS fnS (m2 - (qq2 + 1)) l s7).1, (repS fnS (m2 - (qq2 + 1)) l s7).2) = (Fz, u5)) := hide (by
              rw [← unhide HRP, rep_step (M.map fnC) (unhide HW0) (unhide HFD), show m2 - (qq2 + 1) = r by have := unhide HRE; omega, List.map_append, List.map_cons, List.map_nil, unhide HYC])
            have HRTn := hide ((unhide HRT121).keep hgs (unhide HAT) (fun x e => by injection e with e; have := unhide HLO; omega))
            clear q2 f2 hgs HC121 HB121 HD121 HL121 HRT121 HRP HML
            refine hK.out _ _ trivial (fun hS => ?_)
            clear hK KK hS
            refine wpAnyH_done (by kernel_rfl) ?_ _
            go_wp2
            go_roundw
            case rel => exact ⟨qq2 + 1, _, s7, _, by omega, by go_num, HCn, HBn, HDn, HLn, HMn, HRn, HRTn⟩
            case measure => simp [intOf]; omega
          · refine AllReadyH.cons rfl (fun KK hK => ?_) AllReadyH.nil
            go_simp
            obtain ⟨⟨z, s7⟩, hby⟩ : ∃ r, fnS l st = r := ⟨_, rfl⟩
            have HFD := hide hby
            have HK := hide (cu_functionE (unhide HC117).cu hby)
            refine (unhide HK).mono ?_
            rintro e W122 ⟨y, rfl, hyc, hyo, hya, hc, hg⟩
            have HYC := hide hyc
            have HYO := hide hyo
            have HYL : Hid (fnN.all (fun b => b2 ≤ b) y) := hide (fnN.mono (fun b hb => Nat.le_trans (unhide HL117) hb) hya)
            have HYN : Hid (∀ x, (Value.slice va M.length vc).ownBlock = some x → fnN.all (fun b => b ≠ x) y) := hide (fun x e => fnN.mono (fun b hb => by have := (World.ownsRow.lt (unhide HD117).own x e).2; omega) hya)
            have HC122 := hide ((unhide HC117).step hc hg)
            have HB122 := hide (box_step (unhide HB117) hg (by have := (unhide HGC); omega))
            have HD122 := hide ((unhide HD117).box hg (by have := (unhide HLO); omega))
            have HL122 : Hid (b2 ≤ W122.heap.size) := hide (Nat.le_trans (unhide HL117) hg.size)
            have HRT122 := hide ((unhide HRT117).keep hg (unhide HAT) (fun x e => by injection e with e; have := unhide HLO; omega))
            refine hK.out _ _ trivial (fun hS => ?_)
            clear hK KK HK hc hg hby hyc hyo hya HC117 HB117 HD117 HL117 HRT117
            refine wpAnyH_ready (rs := [1, 4]) (by kernel_rfl) (by simp) ?_
            refine AllReadyH.cons rfl (fun KK hK => ?_) ?_
            · have q2 := (unhide HB122).c 2 rfl
              go_simp
              refine hK.out _ _ trivial (fun hS => ?_)
              clear hK KK q2
              refine wpAnyH_ready (rs := [4]) (by kernel_rfl) (by simp) ?_
              refine AllReadyH.cons rfl (fun KK hK => ?_) AllReadyH.nil
              go_simp
              have HBA124 := hide ((unhide HB122).below ((Below.refl W122.heap.size W122).alloc (Nat.le_refl _) (.cells #[.string y.nm, .slice y.sg.po y.sg.ps.length y.sg.pc, .int .u8 (y.sg.rt : Int), .int .i64 y.lo, .slice y.ca y.cd.length y.cc] 44)))
              refine hK.out _ _ trivial (fun hS => ?_)
              clear hK KK
              refine wpAnyH_ready (rs := [5]) (by kernel_rfl) (by simp) ?_
              refine AllReadyH.cons rfl (fun KK hK => ?_) AllReadyH.nil
              refine step_append_lies _ (by rfl) _ _ 23 (by rfl) b2 44 in2 _ 5 80 Tryz.underlying23 hi2 hz20 hz21 hz22 rfl (by omega) (.slice va M.length vc) M.length (vals fnN M) (by rfl) (rowBelow (unhide HD122).own ((Below.refl _ _).alloc (Nat.le_refl _) _)) ⟨W122.heap.size, 0, none⟩ 1 1 (fnN.cells y) (by rfl) (by rfl) (World.news_of_block (cs := #[.string y.nm, .slice y.sg.po y.sg.ps.length y.sg.pc, .int .u8 (y.sg.rt : Int), .int .i64 y.lo, .slice y.ca y.cd.length y.cc]) (t := 44) (fr := (0, 0)) (heap_alloc_new W122 _)) (fun u hu => by simp [fnN] at hu; rcases hu with rfl | rfl | rfl | rfl | rfl <;> rfl) (by omega) (by have := unhide HML; have := unhide HM2; unfold maxLen; omega) (by have := unhide HML; have := unhide HM2; omega) (by rw [World.size_alloc]; have := unhide HL122; omega) (W122.heap.size + 1) (by simp) ?_
              intro g3 cap3 W125 hown hgrow hat hlt3
              have al : Below W122.heap.size W122 (W122.alloc (.cells #[.string y.nm, .slice y.sg.po y.sg.ps.length y.sg.pc, .int .u8 (y.sg.rt : Int), .int .i64 y.lo, .slice y.ca y.cd.length y.cc] 44)) := (Below.refl _ _).alloc (Nat.le_refl _) _
              have HD125 : Hid (Bld fnN W125 b2 (.slice (some ⟨g3, 0, none⟩) (M.length + 1) cap3) (M ++ [y])) := hide ((unhide HD122).snoc (y := y) (unhide HYO) (unhide HYL) (unhide HYN) hown hgrow hat)
              have HC125 := hide (((unhide HC122).below al).row hgrow (fun x e => by have := unhide HVL x e; have := unhide HLO; omega))
              have HB125 := hide (((unhide HB122).below al).grown hgrow (fun e => by have := unhide HVL gc e; have := unhide HLO; omega))
              have HL125 : Hid (b2 ≤ W125.heap.size) := hide (by have := hgrow.size; rw [World.size_alloc] at this; have := unhide HL122; omega)
              have HRT125 := hide (((unhide HRT122).below al).keep hgrow (unhide HAT) (fun x e => by have := unhide HVL x e; have := unhide HLO; omega))
              refine hK.out _ _ trivial (fun hS => ?_)
              clear hK KK hown hgrow hat hlt3 al HC122 HB122 HD122 HL122 HRT122
              refine wpAnyH_take (i := 6) (v := .pointer (some ⟨gc, 2, none⟩)) rfl (by kernel_rfl) (by kernel_rfl) (by kernel_rfl) (fun _ _ _ h => h) (Or.inl ⟨by rfl, fun W _ => by go_simp⟩) hS ?_
              go_simp
              refine wpAnyH_ready (rs := [7]) (by kernel_rfl) (by simp) ?_
              refine AllReadyH.cons rfl (fun KK hK => ?_) AllReadyH.nil
              have q2 := (unhide HB125).c 2 rfl
              have f2 := (unhide HB125).f 2
              go_simp
              have hgs := grownBy_set W125 gc 2 (.slice (some ⟨g3, 0, none⟩) (M.length + 1) cap3)
              have HCn := hide ((unhide HC125).own hgs (by have := (unhide HLO); omega))
              have HBn : Hid (Bx (W125.setCell ⟨gc, 2, none⟩ (.slice (some ⟨g3, 0, none⟩) (M.length + 1) cap3)) gc 26 #[.string ⟨nm.toArray⟩, .slice ta T.length tc, .slice (some ⟨g3, 0, none⟩) (M.length + 1) cap3, .slice none 0 0]) := hide ((unhide HB125).set 2 _ rfl)
              have HDn := hide ((unhide HD125).box hgs (by have := unhide HLO; omega))
              have HLn : Hid (b2 ≤ (W125.setCell ⟨gc, 2, none⟩ (.slice (some ⟨g3, 0, none⟩) (M.length + 1) cap3)).heap.size) := hide (Nat.le_trans (unhide HL125) hgs.size)
              have HMn : Hid ((M ++ [y]).length = qq2 + 1) := hide (by rw [List.length_append, unhide HML]; rfl)
              have HRn : Hid (((M ++ [y]).map fnC ++ (repS fnS (m2 - (qq2 + 1)) l s7).1, (repS fnS (m2 - (qq2 + 1)) l s7).2) = (Fz, u5)) := hide (by
                rw [← unhide HRP, rep_step (M.map fnC) (unhide HW0) (unhide HFD), show m2 - (qq2 + 1) = r by have := unhide HRE; omega, List.map_append, List.map_cons, List.map_nil, unhide HYC])
              have HRTn := hide ((unhide HRT125).keep hgs (unhide HAT) (fun x e => by injection e with e; have := unhide HLO; omega))
              clear q2 f2 hgs HC125 HB125 HD125 HL125 HRT125 HRP HML
              refine hK.out _ _ trivial (fun hS => ?_)
              clear hK KK hS
              refine wpAnyH_done (by kernel_rfl) ?_ _
              go_wp2
              go_roundw
              case rel => exact ⟨qq2 + 1, _, s7, _, by omega, by go_num, HCn, HBn, HDn, HLn, HMn, HRn, HRTn⟩
              case measure => simp [intOf]; omega
            · refine AllReadyH.cons rfl (fun KK hK => ?_) AllReadyH.nil
              go_simp
              have HBA126 := hide ((unhide HB122).below ((Below.refl W122.heap.size W122).alloc (Nat.le_refl _) (.cells #[.string y.nm, .slice y.sg.po y.sg.ps.length y.sg.pc, .int .u8 (y.sg.rt : Int), .int .i64 y.lo, .slice y.ca y.cd.length y.cc] 44)))
              refine hK.out _ _ trivial (fun hS => ?_)
              clear hK KK
              refine wpAnyH_ready (rs := [1]) (by kernel_rfl) (by simp) ?_
              refine AllReadyH.cons rfl (fun KK hK => ?_) AllReadyH.nil
              have q2 := (unhide HBA126).c 2 rfl
              go_simp
              refine hK.out _ _ trivial (fun hS => ?_)
              clear hK KK q2
              refine wpAnyH_ready (rs := [5]) (by kernel_rfl) (by simp) ?_
              refine AllReadyH.cons rfl (fun KK hK => ?_) AllReadyH.nil
              refine step_append_lies _ (by rfl) _ _ 23 (by rfl) b2 44 in2 _ 5 80 Tryz.underlying23 hi2 hz20 hz21 hz22 rfl (by omega) (.slice va M.length vc) M.length (vals fnN M) (by rfl) (rowBelow (unhide HD122).own ((Below.refl _ _).alloc (Nat.le_refl _) _)) ⟨W122.heap.size, 0, none⟩ 1 1 (fnN.cells y) (by rfl) (by rfl) (World.news_of_block (cs := #[.string y.nm, .slice y.sg.po y.sg.ps.length y.sg.pc, .int .u8 (y.sg.rt : Int), .int .i64 y.lo, .slice y.ca y.cd.length y.cc]) (t := 44) (fr := (0, 0)) (heap_alloc_new W122 _)) (fun u hu => by simp [fnN] at hu; rcases hu with rfl | rfl | rfl | rfl | rfl <;> rfl) (by omega) (by have := unhide HML; have := unhide HM2; unfold maxLen; omega) (by have := unhide HML; have := unhide HM2; omega) (by rw [World.size_alloc]; have := unhide HL122; omega) (W122.heap.size + 1) (by simp) ?_
              intro g3 cap3 W128 hown hgrow hat hlt3
              have al : Below W122.heap.size W122 (W122.alloc (.cells #[.string y.nm, .slice y.sg.po y.sg.ps.length y.sg.pc, .int .u8 (y.sg.rt : Int), .int .i64 y.lo, .slice y.ca y.cd.length y.cc] 44)) := (Below.refl _ _).alloc (Nat.le_refl _) _
              have HD128 : Hid (Bld fnN W128 b2 (.slice (some ⟨g3, 0, none⟩) (M.length + 1) cap3) (M ++ [y])) := hide ((unhide HD122).snoc (y := y) (unhide HYO) (unhide HYL) (unhide HYN) hown hgrow hat)
              have HC128 := hide (((unhide HC122).below al).row hgrow (fun x e => by have := unhide HVL x e; have := unhide HLO; omega))
              have HB128 := hide (((unhide HB122).below al).grown hgrow (fun e => by have := unhide HVL gc e; have := unhide HLO; omega))
              have HL128 : Hid (b2 ≤ W128.heap.size) := hide (by have := hgrow.size; rw [World.size_alloc] at this; have := unhide HL122; omega)
              have HRT128 := hide (((unhide HRT122).below al).keep hgrow (unhide HAT) (fun x e => by have := unhide HVL x e; have := unhide HLO; omega))
              refine hK.out _ _ trivial (fun hS => ?_)
              clear hK KK hown hgrow hat hlt3 al HC122 HB122 HD122 HL122 HRT122
              refine wpAnyH_take (i := 6) (v := .pointer (some ⟨gc, 2, none⟩)) rfl (by kernel_rfl) (by kernel_rfl) (by kernel_rfl) (fun _ _ _ h => h) (Or.inl ⟨by rfl, fun W _ => by go_simp⟩) hS ?_
              go_simp
              refine wpAnyH_ready (rs := [7]) (by kernel_rfl) (by simp) ?_
              refine AllReadyH.cons rfl (fun KK hK => ?_) AllReadyH.nil
              have q2 := (unhide HB128).c 2 rfl
              have f2 := (unhide HB128).f 2
              go_simp
              have hgs := grownBy_set W128 gc 2 (.slice (some ⟨g3, 0, none⟩) (M.length + 1) cap3)
              have HCn := hide ((unhide HC128).own hgs (by have := (unhide HLO); omega))
              have HBn : Hid (Bx (W128.setCell ⟨gc, 2, none⟩ (.slice (some ⟨g3, 0, none⟩) (M.length + 1) cap3)) gc 26 #[.string ⟨nm.toArray⟩, .slice ta T.length tc, .slice (some ⟨g3, 0, none⟩) (M.length + 1) cap3, .slice none 0 0]) := hide ((unhide HB128).set 2 _ rfl)
              have HDn := hide ((unhide HD128).box hgs (by have := unhide HLO; omega))
              have HLn : Hid (b2 ≤ (W128.setCell ⟨gc, 2, none⟩ (.slice (some ⟨g3, 0, none⟩) (M.length + 1) cap3)).heap.size) := hide (Nat.le_trans (unhide HL128) hgs.size)
              have HMn : Hid ((M ++ [y]).length = qq2 + 1) := hide (by rw [List.length_append, unhide HML]; rfl)
              have HRn : Hid (((M ++ [y]).map fnC ++ (repS fnS (m2 - (qq2 + 1)) l s7).1, (repS fnS (m2 - (qq2 + 1)) l s7).2) = (Fz, u5)) := hide (by
                rw [← unhide HRP, rep_step (M.map fnC) (unhide HW0) (unhide HFD), show m2 - (qq2 + 1) = r by have := unhide HRE; omega, List.map_append, List.map_cons, List.map_nil, unhide HYC])
              have HRTn := hide ((unhide HRT128).keep hgs (unhide HAT) (fun x e => by injection e with e; have := unhide HLO; omega))
              clear q2 f2 hgs HC128 HB128 HD128 HL128 HRT128 HRP HML
              refine hK.out _ _ trivial (fun hS => ?_)
              clear hK KK hS
              refine wpAnyH_done (by kernel_rfl) ?_ _
              go_wp2
              go_roundw
              case rel => exact ⟨qq2 + 1, _, s7, _, by omega, by go_num, HCn, HBn, HDn, HLn, HMn, HRn, HRTn⟩
              case measure => simp [intOf]; omega
        | false =>
          have hno := of_decide_eq_false (unhide HP).symm
          have hrr : (M.map fnC, st) = (Fz, u5) := by
            rw [← unhide HRP]
            by_cases h0 : st.why = 0
            · rw [show m2 - qq2 = 0 by
                by_cases hlt : qq2 < m2
                · exact absurd ⟨hlt, h0⟩ hno
                · omega]
              exact (rep_done _).symm
            · exact (rep_stop _ h0).symm
          have HNO := hide hno
          clear HRP HP hno
          injection hrr with hr1 hr2
          have HMQ : Hid (M.length ≤ m2) := hide (by have := unhide HML; omega)
          have HMZ : Hid (st.why = 0 → M.length = m2) := hide (fun h0 => by have := unhide HML; have hh := unhide HNO; by_cases hlt : qq2 < m2; exact absurd ⟨hlt, h0⟩ hh; omega)
          clear HNO
          obtain ⟨xa, xc, hv, hrow, hall, hnil, hcap⟩ := (unhide HD116).outC
          subst hv
          obtain ⟨fa, HE1x⟩ : ∃ t, t = xa := ⟨_, rfl⟩
          obtain ⟨fcc, HE2x⟩ : ∃ t, t = xc := ⟨_, rfl⟩
          obtain ⟨F, HE3x⟩ : ∃ t, t = M := ⟨_, rfl⟩
          subst HE1x HE2x HE3x
          have HFM := HMQ
          have HNF : Hid (NeRow fnN fa F) := hide (unhide HD116).neOut
          have HFZ : Hid (F.map fnC = Fz) := hide hr1
          have HCF := hide hcap
          have HCx : Hid (K0 w wr g ao cap l u5 26 #[.string ⟨#[]⟩, .slice none 0 0, .slice none 0 0, .slice none 0 0]) := hide (by rw [← hr2]; exact unhide HC116)
          clear HML hr1 hr2 HC116 HMZ
          have c1 := (unhide HCx).cu.bx.c 1 rfl
          have HK := hide (cu_byteE (unhide HCx).cu (unhide HE6))
          go_wp2_with fail
          refine (unhide HK).mono ?_
          rintro e W9 ⟨rfl, hc, hg⟩
          have HC8 := hide ((unhide HCx).step hc hg)
          have HB8 := hide (box_step (unhide HB116) hg (by have := (unhide HLO); omega))
          have hrow6 := hrow.far hg (RowAll.mono (fun b hb => by have := unhide HLO; omega) hall)
          have HRT8 := hide ((unhide HRT116).keep hg (unhide HAT) (fun x e => by injection e with e; have := unhide HLO; omega))
          obtain ⟨b3, HBS⟩ : ∃ b3, b3 = W9.heap.size := ⟨_, rfl⟩
          have HLOn : Hid (w.heap.size < gc ∧ gc < b1 ∧ b1 ≤ b2 ∧ b2 ≤ b3) := hide ⟨(unhide HLO).1, (unhide HLO).2.1, (unhide HLO).2.2, by have := unhide HL116; have := hg.size; omega⟩
          have HAF : Hid (RowAll fnN (fun b => b2 ≤ b ∧ b < b3) fa F) := hide (hrow6.span hall (by omega) fn_both)
          have HRF8 := hide hrow6
          have HL8 : Hid (b3 ≤ W9.heap.size) := hide (by omega)
          have hcb := unhide HCB
          have hm64 := unhide HM2
          have c3 := (unhide HC8).cu.bx.c 3 rfl
          clear hc hg HK HCx HB116 HD116 HL116 HRT116 hrow hall hrow6 HBS hnil hcap HLO c1
          have HLO := HLOn
          clear HLOn
          go_upto_region 15 with fail
          go_cut [77] (fun pc wx => ∃ p : Bool, pc = .bool p ∧ Hid (p = decide (u6.why = 0 ∧ (1 < c ∨ (c = 1 ∧ m2 = 0)))) ∧ Hid (K0 w wx g ao cap l u6 26 #[.string ⟨#[]⟩, .slice none 0 0, .slice none 0 0, .slice none 0 0]) ∧ Hid (Bx wx gc 26 #[.string ⟨nm.toArray⟩, .slice ta T.length tc, .slice fa F.length fcc, .slice none 0 0]) ∧ Hid (RowAt clN wx ta T) ∧ Hid (RowAt fnN wx fa F) ∧ Hid (b3 ≤ wx.heap.size))
          case first =>
            by_cases h0 : u6.why = 0
            · have t0 : (u6.why == 0) = true := beq_t h0
              by_cases h1 : 1 < c
              · have i1 : (c : Int) > 1 := by omega
                have HP : Hid (true = decide (u6.why = 0 ∧ (1 < c ∨ (c = 1 ∧ m2 = 0)))) := hide (by symm; rw [decide_eq_true_iff]; exact ⟨h0, Or.inl h1⟩)
                clear h0 h1
                go_wp2
                go_meet
                exact ⟨true, rfl, HP, HC8, HB8, HRT8, HRF8, HL8⟩
              · have i1 : ¬ (c : Int) > 1 := by omega
                by_cases h2 : c = 1
                · have t1 : ((c : Int) == 1) = true := beq_t (by omega)
                  by_cases h3 : m2 = 0
                  · have t2 : ((m2 : Int) == 0) = true := beq_t (by omega)
                    have HP : Hid (true = decide (u6.why = 0 ∧ (1 < c ∨ (c = 1 ∧ m2 = 0)))) := hide (by symm; rw [decide_eq_true_iff]; exact ⟨h0, Or.inr ⟨h2, h3⟩⟩)
                    clear h0 h1 h2 h3
                    go_wp2
                    go_meet
                    exact ⟨true, rfl, HP, HC8, HB8, HRT8, HRF8, HL8⟩
                  · have t2 : ((m2 : Int) == 0) = false := beq_f (by omega)
                    have HP : Hid (false = decide (u6.why = 0 ∧ (1 < c ∨ (c = 1 ∧ m2 = 0)))) := hide (by symm; rw [decide_eq_false_iff_not]; rintro ⟨_, h | h⟩ <;> omega)
                    clear h0 h1 h2 h3
                    go_wp2
                    go_meet
                    exact ⟨false, rfl, HP, HC8, HB8, HRT8, HRF8, HL8⟩
                · have t1 : ((c : Int) == 1) = false := beq_f (by omega)
                  have HP : Hid (false = decide (u6.why = 0 ∧ (1 < c ∨ (c = 1 ∧ m2 = 0)))) := hide (by symm; rw [decide_eq_false_iff_not]; rintro ⟨_, h | h⟩ <;> omega)
                  clear h0 h1 h2
                  go_wp2
                  go_meet
                  exact ⟨false, rfl, HP, HC8, HB8, HRT8, HRF8, HL8⟩
            · have t0 : (u6.why == 0) = false := beq_f h0
              have HP : Hid (false = decide (u6.why = 0 ∧ (1 < c ∨ (c = 1 ∧ m2 = 0)))) := hide (by symm; rw [decide_eq_false_iff_not]; rintro ⟨h, _⟩; exact h0 h)
              clear h0
              go_wp2
              go_meet
              exact ⟨false, rfl, HP, HC8, HB8, HRT8, HRF8, HL8⟩
          case rest =>
          clear HC8 HB8 HRT8 HRF8 HL8 c3
          obtain ⟨p, rfl, HP, HC7, HB7, HRT7, HRF7, HL7⟩ := hcut
          go_upto_if 77 with fail
          go_cut [] (fun wx => Hid (K0 w wx g ao cap l u7 26 #[.string ⟨#[]⟩, .slice none 0 0, .slice none 0 0, .slice none 0 0]) ∧ Hid (Bx wx gc 26 #[.string ⟨nm.toArray⟩, .slice ta T.length tc, .slice fa F.length fcc, .slice none 0 0]) ∧ Hid (RowAt clN wx ta T) ∧ Hid (RowAt fnN wx fa F) ∧ Hid (b3 ≤ wx.heap.size))
          case first =>
            cases p with
            | true =>
              have h := of_decide_eq_true (unhide HP).symm
              have HE2x := hide (show u7 = failS u6 u5.at_ 162 by rw [← unhide HE7, c1S, if_pos h])
              have HF := hide (cu_fail (unhide HC7).cu u5.at_ 162)
              clear h HP
              go_wp2_with fail
              refine (unhide HF).mono ?_
              rintro e W2x ⟨rfl, hc, hg⟩
              have HZ1 : Hid (K0 w W2x g ao cap l u7 26 #[.string ⟨#[]⟩, .slice none 0 0, .slice none 0 0, .slice none 0 0]) := hide (by rw [unhide HE2x]; exact (unhide HC7).step hc hg)
              have HZ2 := hide (box_step (unhide HB7) hg (by have := (unhide HLO); omega))
              have HZ3 := hide ((unhide HRT7).keep hg (unhide HAT) (fun x e => by injection e with e; have := unhide HLO; omega))
              have HZ4 := hide ((unhide HRF7).keep hg (unhide HAF) (fun x e => by injection e with e; have := unhide HLO; omega))
              have HZ5 : Hid (b3 ≤ W2x.heap.size) := hide (Nat.le_trans (unhide HL7) hg.size)
              clear hc hg HF HE2x
              go_wp2_with fail
              go_meet
              exact ⟨HZ1, HZ2, HZ3, HZ4, HZ5⟩
            | false =>
              have h := of_decide_eq_false (unhide HP).symm
              have HE2x : u7 = u6 := by rw [← unhide HE7, c1S, if_neg h]
              have HZ1 : Hid (K0 w wc g ao cap l u7 26 #[.string ⟨#[]⟩, .slice none 0 0, .slice none 0 0, .slice none 0 0]) := hide (by rw [HE2x]; exact unhide HC7)
              clear h HP HE2x
              go_wp2_with fail
              go_meet
              exact ⟨HZ1, HB7, HRT7, HRF7, HL7⟩
          case rest =>
          clear HC7 HB7 HRT7 HRF7 HL7 HP
          obtain ⟨HC9, HB9, HRT9, HRF9, HL9⟩ := hcut
          have HM3 : Hid (m3 ≤ 64) := hide (by have h := unhide HM3E; have := unhide HM2; by_cases hc1 : c = 1; rw [if_pos hc1] at h; omega; rw [if_neg hc1] at h; omega)
          go_wp2_with fail
          go_loopw [9] (fun i wr => ∃ (q : Nat) (M : List Bs) (st : Cs) (v : Value), q ≤ m3 ∧ i = .int .i64 (q : Int) ∧ Hid (K0 w wr g ao cap l st 26 #[.string ⟨#[]⟩, .slice none 0 0, .slice none 0 0, .slice none 0 0]) ∧ Hid (Bx wr gc 26 #[.string ⟨nm.toArray⟩, .slice ta T.length tc, .slice fa F.length fcc, v]) ∧ Hid (Bld bsN wr b3 v M) ∧ Hid (b3 ≤ wr.heap.size) ∧ Hid (M.length = q) ∧ Hid ((M.map bsC ++ (repS loS (m3 - q) l st).1, (repS loS (m3 - q) l st).2) = (Cz, u8)) ∧ Hid (RowAt clN wr ta T) ∧ Hid (RowAt fnN wr fa F)) (fun i _ => m3 - (intOf i).toNat)
          case atStart => exact ⟨0, [], u7, .slice none 0 0, by omega, rfl, HC9, HB9, hide (Bld.nil _ _ _), HL9, hide rfl, hide (rep0 (unhide HR3)), HRT9, HRF9⟩
          case round =>
            clear HC9 HB9 HL9 HRT9 HRF9
            obtain ⟨qq3, M, st, v, hqq3, rfl, HC129, HB129, HD129, HL129, HML, HRP, HRT129, HRF129⟩ := hrel
            have c3 := (unhide HC129).cu.bx.c 3 rfl
            go_upto_region 18 with fail
            go_cut [94] (fun c wx => ∃ p : Bool, c = .bool p ∧ Hid (p = decide (qq3 < m3 ∧ st.why = 0)) ∧ Hid (K0 w wx g ao cap l st 26 #[.string ⟨#[]⟩, .slice none 0 0, .slice none 0 0, .slice none 0 0]) ∧ Hid (Bx wx gc 26 #[.string ⟨nm.toArray⟩, .slice ta T.length tc, .slice fa F.length fcc, v]) ∧ Hid (Bld bsN wx b3 v M) ∧ Hid (b3 ≤ wx.heap.size) ∧ Hid (RowAt clN wx ta T) ∧ Hid (RowAt fnN wx fa F))
            case first =>
              have hcb := unhide HCB
              by_cases hc1 : c = 1
              · have tc : ((c : Int) == 1) = true := beq_t (by omega)
                have hm3 : m3 = m2 := by rw [← unhide HM3E, if_pos hc1]
                by_cases hlt : qq3 < m3
                · have i1 : ((qq3 : Nat) : Int) < ((m2 : Nat) : Int) := by omega
                  by_cases h0 : st.why = 0
                  · have t0 : (st.why == 0) = true := beq_t h0
                    have HP : Hid (true = decide (qq3 < m3 ∧ st.why = 0)) := hide (by symm; rw [decide_eq_true_iff]; exact ⟨hlt, h0⟩)
                    clear h0 hlt hm3 hc1
                    go_wp2
                    go_meet
                    exact ⟨true, rfl, HP, HC129, HB129, HD129, HL129, HRT129, HRF129⟩
                  · have t0 : (st.why == 0) = false := beq_f h0
                    have HP : Hid (false = decide (qq3 < m3 ∧ st.why = 0)) := hide (by symm; rw [decide_eq_false_iff_not]; rintro ⟨_, h⟩; exact h0 h)
                    clear h0 hlt hm3 hc1
                    go_wp2
                    go_meet
                    exact ⟨false, rfl, HP, HC129, HB129, HD129, HL129, HRT129, HRF129⟩
                · have i1 : ¬ ((qq3 : Nat) : Int) < ((m2 : Nat) : Int) := by omega
                  have HP : Hid (false = decide (qq3 < m3 ∧ st.why = 0)) := hide (by symm; rw [decide_eq_false_iff_not]; rintro ⟨h, _⟩; exact hlt h)
                  clear hlt hm3 hc1
                  go_wp2
                  go_meet
                  exact ⟨false, rfl, HP, HC129, HB129, HD129, HL129, HRT129, HRF129⟩
              · have tc : ((c : Int) == 1) = false := beq_f (by omega)
                have hm3 : m3 = 0 := by rw [← unhide HM3E, if_neg hc1]
                have HP : Hid (false = decide (qq3 < m3 ∧ st.why = 0)) := hide (by symm; rw [decide_eq_false_iff_not]; rintro ⟨h, _⟩; omega)
                by_cases hlt : ((qq3 : Nat) : Int) < ((m2 : Nat) : Int)
                · clear hm3 hc1
                  go_wp2
                  go_meet
                  exact ⟨false, rfl, HP, HC129, HB129, HD129, HL129, HRT129, HRF129⟩
                · clear hm3 hc1
                  go_wp2
                  go_meet
                  exact ⟨false, rfl, HP, HC129, HB129, HD129, HL129, HRT129, HRF129⟩
            case rest =>
            clear HC129 HB129 HD129 HL129 c3 HRT129 HRF129
            obtain ⟨p, rfl, HP, HC130, HB130, HD130, HL130, HRT130, HRF130⟩ := hcut
            rename World => wr
            cases p with
            | true =>
              obtain ⟨hlt, h0⟩ := of_decide_eq_true (unhide HP).symm
              have HW0 := hide h0
              have i1 : ((qq3 : Nat) : Int) < ((m3 : Nat) : Int) := by omega
              obtain ⟨r, HRE⟩ : ∃ r, Hid (m3 - qq3 = r + 1) := ⟨m3 - qq3 - 1, hide (by omega)⟩
              obtain ⟨va, vc, rfl⟩ := (unhide HD130).slice
              have HVL : Hid (∀ x, (Value.slice va M.length vc).ownBlock = some x → b3 ≤ x) := hide (fun x e => (World.ownsRow.lt (unhide HD130).own x e).1)
              have hmb := unhide HM3
              clear h0 HP
              rw [unhide HRE] at HRP
              go_upto_region 20 with fail
              refine wp_region_held_drew (S := fun _ => True) mixed trivial (fun hS => ?_)
              have hdw : Below wr.heap.size wr wr.drew := Below.drew (Below.refl _ _)
              have HC131 := hide ((unhide HC130).below hdw)
              have HB131 := hide ((unhide HB130).below hdw)
              have HD131 := hide ((unhide HD130).below hdw)
              have HL131 : Hid (b3 ≤ wr.drew.heap.size) := hide (unhide HL130)
              have HRT131 := hide ((unhide HRT130).below hdw)
              have HRF131 := hide ((unhide HRF130).below hdw)
              clear hdw HC130 HB130 HD130 HL130 HRT130 HRF130
              generalize wr.drew = Wd at HC131 HB131 HD131 HL131 HRT131 HRF131 ⊢
              refine wpAnyH_take (i := 0) (v := .pointer (some ⟨gc, 3, none⟩)) rfl (by kernel_rfl) (by kernel_rfl) (by kernel_rfl) (fun _ _ _ h => h) (Or.inl ⟨by rfl, fun W _ => by go_simp⟩) hS ?_
              go_simp
              refine wpAnyH_take (i := 2) (v := .pointer (some ⟨g, 0, none⟩)) rfl (by kernel_rfl) (by kernel_rfl) (by kernel_rfl) (fun _ _ _ h => h) (Or.inl ⟨by rfl, fun W _ => by go_simp⟩) hS ?_
              go_simp
              refine wpAnyH_ready (rs := [1, 3]) (by kernel_rfl) (by simp) ?_
              refine AllReadyH.cons rfl (fun KK hK => ?_) ?_
              · have q2 := (unhide HB131).c 3 rfl
                go_simp
                refine hK.out _ _ trivial (fun hS => ?_)
                clear hK KK q2
                refine wpAnyH_ready (rs := [3]) (by kernel_rfl) (by simp) ?_
                refine AllReadyH.cons rfl (fun KK hK => ?_) AllReadyH.nil
                go_simp
                obtain ⟨⟨z, s7⟩, hby⟩ : ∃ r, loS l st = r := ⟨_, rfl⟩
                have HFD := hide hby
                have hzl := loS_len l st
                rw [hby] at hzl
                replace hzl : z.length < 65536 := hzl
                have HK := hide (cu_pieceE (unhide HC131).cu hby)
                refine (unhide HK).mono ?_
                rintro e W133 ⟨v, rfl, ho, hc, hg⟩
                obtain ⟨ca, cc, rfl, hba, hbl, hbn⟩ := own_out ho
                obtain ⟨y, hy1, hy2, hy3⟩ : ∃ y : Bs, y.ca = ca ∧ y.cc = cc ∧ y.cd = z := ⟨⟨ca, cc, z⟩, rfl, rfl, rfl⟩
                subst hy1 hy2 hy3
                have hyc : bsC y = y.cd := rfl
                have hyo : bsN.ok W133 y := ⟨hba, hbn, by omega, own_pl ho⟩
                have hya : bsN.all (fun b => Wd.heap.size ≤ b) y := hbl
                clear ho hba hbl hbn hzl
                have HYC := hide hyc
                have HYO := hide hyo
                have HYL : Hid (bsN.all (fun b => b3 ≤ b) y) := hide (bsN.mono (fun b hb => Nat.le_trans (unhide HL131) hb) hya)
                have HYN : Hid (∀ x, (Value.slice va M.length vc).ownBlock = some x → bsN.all (fun b => b ≠ x) y) := hide (fun x e => bsN.mono (fun b hb => by have := (World.ownsRow.lt (unhide HD131).own x e).2; omega) hya)
                have HC133 := hide ((unhide HC131).step hc hg)
                have HB133 := hide (box_step (unhide HB131) hg (by have := (unhide HGC); omega))
                have HD133 := hide ((unhide HD131).box hg (by have := (unhide HLO); omega))
                have HL133 : Hid (b3 ≤ W133.heap.size) := hide (Nat.le_trans (unhide HL131) hg.size)
                have HRT133 := hide ((unhide HRT131).keep hg (unhide HAT) (fun x e => by injection e with e; have := unhide HLO; omega))
                have HRF133 := hide ((unhide HRF131).keep hg (unhide HAF) (fun x e => by injection e with e; have := unhide HLO; omega))
                refine hK.out _ _ trivial (fun hS => ?_)
                clear hK KK HK hc hg hby hyc hyo hya HC131 HB131 HD131 HL131 HRT131 HRF131
                refine wpAnyH_ready (rs := [4]) (by kernel_rfl) (by simp) ?_
                refine AllReadyH.cons rfl (fun KK hK => ?_) AllReadyH.nil
                go_simp
                have HBA134 := hide ((unhide HB133).below ((Below.refl W133.heap.size W133).alloc (Nat.le_refl _) (.cells #[.slice y.ca y.cd.length y.cc] 28)))
                refine hK.out _ _ trivial (fun hS => ?_)
                clear hK KK
                refine wpAnyH_ready (rs := [5]) (by kernel_rfl) (by simp) ?_
                refine AllReadyH.cons rfl (fun KK hK => ?_) AllReadyH.nil
                refine step_append_lies _ (by rfl) _ _ 24 (by rfl) b3 28 in3 _ 1 24 Tryz.underlying24 hi3 hz30 hz31 hz32 rfl (by omega) (.slice va M.length vc) M.length (vals bsN M) (by rfl) (rowBelow (unhide HD133).own ((Below.refl _ _).alloc (Nat.le_refl _) _)) ⟨W133.heap.size, 0, none⟩ 1 1 (bsN.cells y) (by rfl) (by rfl) (World.news_of_block (cs := #[.slice y.ca y.cd.length y.cc]) (t := 28) (fr := (0, 0)) (heap_alloc_new W133 _)) (fun u hu => by simp [bsN] at hu; rcases hu with rfl <;> rfl) (by omega) (by have := unhide HML; have := unhide HM3; unfold maxLen; omega) (by have := unhide HML; have := unhide HM3; omega) (by rw [World.size_alloc]; have := unhide HL133; omega) (W133.heap.size + 1) (by simp) ?_
                intro g3 cap3 W135 hown hgrow hat hlt3
                have al : Below W133.heap.size W133 (W133.alloc (.cells #[.slice y.ca y.cd.length y.cc] 28)) := (Below.refl _ _).alloc (Nat.le_refl _) _
                have HD135 : Hid (Bld bsN W135 b3 (.slice (some ⟨g3, 0, none⟩) (M.length + 1) cap3) (M ++ [y])) := hide ((unhide HD133).snoc (y := y) (unhide HYO) (unhide HYL) (unhide HYN) hown hgrow hat)
                have HC135 := hide (((unhide HC133).below al).row hgrow (fun x e => by have := unhide HVL x e; have := unhide HLO; omega))
                have HB135 := hide (((unhide HB133).below al).grown hgrow (fun e => by have := unhide HVL gc e; have := unhide HLO; omega))
                have HL135 : Hid (b3 ≤ W135.heap.size) := hide (by have := hgrow.size; rw [World.size_alloc] at this; have := unhide HL133; omega)
                have HRT135 := hide (((unhide HRT133).below al).keep hgrow (unhide HAT) (fun x e => by have := unhide HVL x e; have := unhide HLO; omega))
                have HRF135 := hide (((unhide HRF133).below al).keep hgrow (unhide HAF) (fun x e => by have := unhide HVL x e; have := unhide HLO; omega))
                refine hK.out _ _ trivial (fun hS => ?_)
                clear hK KK hown hgrow hat hlt3 al HC133 HB133 HD133 HL133 HRT133 HRF133
                refine wpAnyH_take (i := 6) (v := .pointer (some ⟨gc, 3, none⟩)) rfl (by kernel_rfl) (by kernel_rfl) (by kernel_rfl) (fun _ _ _ h => h) (Or.inl ⟨by rfl, fun W _ => by go_simp⟩) hS ?_
                go_simp
                refine wpAnyH_ready (rs := [7]) (by kernel_rfl) (by simp) ?_
                refine AllReadyH.cons rfl (fun KK hK => ?_) AllReadyH.nil
                have q2 := (unhide HB135).c 3 rfl
                have f2 := (unhide HB135).f 3
                go_simp
                have hgs := grownBy_set W135 gc 3 (.slice (some ⟨g3, 0, none⟩) (M.length + 1) cap3)
                have HCn := hide ((unhide HC135).own hgs (by have := (unhide HLO); omega))
                have HBn : Hid (Bx (W135.setCell ⟨gc, 3, none⟩ (.slice (some ⟨g3, 0, none⟩) (M.length + 1) cap3)) gc 26 #[.string ⟨nm.toArray⟩, .slice ta T.length tc, .slice fa F.length fcc, .slice (some ⟨g3, 0, none⟩) (M.length + 1) cap3]) := hide ((unhide HB135).set 3 _ rfl)
                have HDn := hide ((unhide HD135).box hgs (by have := unhide HLO; omega))
                have HLn : Hid (b3 ≤ (W135.setCell ⟨gc, 3, none⟩ (.slice (some ⟨g3, 0, none⟩) (M.length + 1) cap3)).heap.size) := hide (Nat.le_trans (unhide HL135) hgs.size)
                have HMn : Hid ((M ++ [y]).length = qq3 + 1) := hide (by rw [List.length_append, unhide HML]; rfl)
                have HRn : Hid (((M ++ [y]).map bsC ++ (repS loS (m3 - (qq3 + 1)) l s7).1, (repS loS (m3 - (qq3 + 1)) l s7).2) = (Cz, u8)) := hide (by
                  rw [← unhide HRP, rep_step (M.map bsC) (unhide HW0) (unhide HFD), show m3 - (qq3 + 1) = r by have := unhide HRE; omega, List.map_append, List.map_cons, List.map_nil, unhide HYC])
                have HRTn := hide ((unhide HRT135).keep hgs (unhide HAT) (fun x e => by injection e with e; have := unhide HLO; omega))
                have HRFn := hide ((unhide HRF135).keep hgs (unhide HAF) (fun x e => by injection e with e; have := unhide HLO; omega))
                clear q2 f2 hgs HC135 HB135 HD135 HL135 HRT135 HRF135 HRP HML
                refine hK.out _ _ trivial (fun hS => ?_)
                clear hK KK hS
                refine wpAnyH_done (by kernel_rfl) ?_ _
                go_wp2
                go_roundw
                case rel => exact ⟨qq3 + 1, _, s7, _, by omega, by go_num, HCn, HBn, HDn, HLn, HMn, HRn, HRTn, HRFn⟩
                case measure => simp [intOf]; omega
              · refine AllReadyH.cons rfl (fun KK hK => ?_) AllReadyH.nil
                go_simp
                obtain ⟨⟨z, s7⟩, hby⟩ : ∃ r, loS l st = r := ⟨_, rfl⟩
                have HFD := hide hby
                have hzl := loS_len l st
                rw [hby] at hzl
                replace hzl : z.length < 65536 := hzl
                have HK := hide (cu_pieceE (unhide HC131).cu hby)
                refine (unhide HK).mono ?_
                rintro e W136 ⟨v, rfl, ho, hc, hg⟩
                obtain ⟨ca, cc, rfl, hba, hbl, hbn⟩ := own_out ho
                obtain ⟨y, hy1, hy2, hy3⟩ : ∃ y : Bs, y.ca = ca ∧ y.cc = cc ∧ y.cd = z := ⟨⟨ca, cc, z⟩, rfl, rfl, rfl⟩
                subst hy1 hy2 hy3
                have hyc : bsC y = y.cd := rfl
                have hyo : bsN.ok W136 y := ⟨hba, hbn, by omega, own_pl ho⟩
                have hya : bsN.all (fun b => Wd.heap.size ≤ b) y := hbl
                clear ho hba hbl hbn hzl
                have HYC := hide hyc
                have HYO := hide hyo
                have HYL : Hid (bsN.all (fun b => b3 ≤ b) y) := hide (bsN.mono (fun b hb => Nat.le_trans (unhide HL131) hb) hya)
                have HYN : Hid (∀ x, (Value.slice va M.length vc).ownBlock = some x → bsN.all (fun b => b ≠ x) y) := hide (fun x e => bsN.mono (fun b hb => by have := (World.ownsRow.lt (unhide HD131).own x e).2; omega) hya)
                have HC136 := hide ((unhide HC131).step hc hg)
                have HB136 := hide (box_step (unhide HB131) hg (by have := (unhide HGC); omega))
                have HD136 := hide ((unhide HD131).box hg (by have := (unhide HLO); omega))
                have HL136 : Hid (b3 ≤ W136.heap.size) := hide (Nat.le_trans (unhide HL131) hg.size)
                have HRT136 := hide ((unhide HRT131).keep hg (unhide HAT) (fun x e => by injection e with e; have := unhide HLO; omega))
                have HRF136 := hide ((unhide HRF131).keep hg (unhide HAF) (fun x e => by injection e with e; have := unhide HLO; omega))
                refine hK.out _ _ trivial (fun hS => ?_)
                clear hK KK HK hc hg hby hyc hyo hya HC131 HB131 HD131 HL131 HRT131 HRF131
                refine wpAnyH_ready (rs := [1, 4]) (by kernel_rfl) (by simp) ?_
                refine AllReadyH.cons rfl (fun KK hK => ?_) ?_
                · have q2 := (unhide HB136).c 3 rfl
                  go_simp
                  refine hK.out _ _ trivial (fun hS => ?_)
                  clear hK KK q2
                  refine wpAnyH_ready (rs := [4]) (by kernel_rfl) (by simp) ?_
                  refine AllReadyH.cons rfl (fun KK hK => ?_) AllReadyH.nil
                  go_simp
                  have HBA138 := hide ((unhide HB136).below ((Below.refl W136.heap.size W136).alloc (Nat.le_refl _) (.cells #[.slice y.ca y.cd.length y.cc] 28)))
                  refine hK.out _ _ trivial (fun hS => ?_)
                  clear hK KK
                  refine wpAnyH_ready (rs := [5]) (by kernel_rfl) (by simp) ?_
                  refine AllReadyH.cons rfl (fun KK hK => ?_) AllReadyH.nil
                  refine step_append_lies _ (by rfl) _ _ 24 (by rfl) b3 28 in3 _ 1 24 Tryz.underlying24 hi3 hz30 hz31 hz32 rfl (by omega) (.slice va M.length vc) M.length (vals bsN M) (by rfl) (rowBelow (unhide HD136).own ((Below.refl _ _).alloc (Nat.le_refl _) _)) ⟨W136.heap.size, 0, none⟩ 1 1 (bsN.cells y) (by rfl) (by rfl) (World.news_of_block (cs := #[.slice y.ca y.cd.length y.cc]) (t := 28) (fr := (0, 0)) (heap_alloc_new W136 _)) (fun u hu => by simp [bsN] at hu; rcases hu with rfl <;> rfl) (by omega) (by have := unhide HML; have := unhide HM3; unfold maxLen; omega) (by have := unhide HML; have := unhide HM3; omega) (by rw [World.size_alloc]; have := unhide HL136; omega) (W136.heap.size + 1) (by simp) ?_
                  intro g3 cap3 W139 hown hgrow hat hlt3
                  have al : Below W136.heap.size W136 (W136.alloc (.cells #[.slice y.ca y.cd.length y.cc] 28)) := (Below.refl _ _).alloc (Nat.le_refl _) _
                  have HD139 : Hid (Bld bsN W139 b3 (.slice (some ⟨g3, 0, none⟩) (M.length + 1) cap3) (M ++ [y])) := hide ((unhide HD136).snoc (y := y) (unhide HYO) (unhide HYL) (unhide HYN) hown hgrow hat)
                  have HC139 := hide (((unhide HC136).below al).row hgrow (fun x e => by have := unhide HVL x e; have := unhide HLO; omega))
                  have HB139 := hide (((unhide HB136).below al).grown hgrow (fun e => by have := unhide HVL gc e; have := unhide HLO; omega))
                  have HL139 : Hid (b3 ≤ W139.heap.size) := hide (by have := hgrow.size; rw [World.size_alloc] at this; have := unhide HL136; omega)
                  have HRT139 := hide (((unhide HRT136).below al).keep hgrow (unhide HAT) (fun x e => by have := unhide HVL x e; have := unhide HLO; omega))
                  have HRF139 := hide (((unhide HRF136).below al).keep hgrow (unhide HAF) (fun x e => by have := unhide HVL x e; have := unhide HLO; omega))
                  refine hK.out _ _ trivial (fun hS => ?_)
                  clear hK KK hown hgrow hat hlt3 al HC136 HB136 HD136 HL136 HRT136 HRF136
                  refine wpAnyH_take (i := 6) (v := .pointer (some ⟨gc, 3, none⟩)) rfl (by kernel_rfl) (by kernel_rfl) (by kernel_rfl) (fun _ _ _ h => h) (Or.inl ⟨by rfl, fun W _ => by go_simp⟩) hS ?_
                  go_simp
                  refine wpAnyH_ready (rs := [7]) (by kernel_rfl) (by simp) ?_
                  refine AllReadyH.cons rfl (fun KK hK => ?_) AllReadyH.nil
                  have q2 := (unhide HB139).c 3 rfl
                  have f2 := (unhide HB139).f 3
                  go_simp
                  have hgs := grownBy_set W139 gc 3 (.slice (some ⟨g3, 0, none⟩) (M.length + 1) cap3)
                  have HCn := hide ((unhide HC139).own hgs (by have := (unhide HLO); omega))
                  have HBn : Hid (Bx (W139.setCell ⟨gc, 3, none⟩ (.slice (some ⟨g3, 0, none⟩) (M.length + 1) cap3)) gc 26 #[.string ⟨nm.toArray⟩, .slice ta T.length tc, .slice fa F.length fcc, .slice (some ⟨g3, 0, none⟩) (M.length + 1) cap3]) := hide ((unhide HB139).set 3 _ rfl)
                  have HDn := hide ((unhide HD139).box hgs (by have := unhide HLO; omega))
                  have HLn : Hid (b3 ≤ (W139.setCell ⟨gc, 3, none⟩ (.slice (some ⟨g3, 0, none⟩) (M.length + 1) cap3)).heap.size) := hide (Nat.le_trans (unhide HL139) hgs.size)
                  have HMn : Hid ((M ++ [y]).length = qq3 + 1) := hide (by rw [List.length_append, unhide HML]; rfl)
                  have HRn : Hid (((M ++ [y]).map bsC ++ (repS loS (m3 - (qq3 + 1)) l s7).1, (repS loS (m3 - (qq3 + 1)) l s7).2) = (Cz, u8)) := hide (by
                    rw [← unhide HRP, rep_step (M.map bsC) (unhide HW0) (unhide HFD), show m3 - (qq3 + 1) = r by have := unhide HRE; omega, List.map_append, List.map_cons, List.map_nil, unhide HYC])
                  have HRTn := hide ((unhide HRT139).keep hgs (unhide HAT) (fun x e => by injection e with e; have := unhide HLO; omega))
                  have HRFn := hide ((unhide HRF139).keep hgs (unhide HAF) (fun x e => by injection e with e; have := unhide HLO; omega))
                  clear q2 f2 hgs HC139 HB139 HD139 HL139 HRT139 HRF139 HRP HML
                  refine hK.out _ _ trivial (fun hS => ?_)
                  clear hK KK hS
                  refine wpAnyH_done (by kernel_rfl) ?_ _
                  go_wp2
                  go_roundw
                  case rel => exact ⟨qq3 + 1, _, s7, _, by omega, by go_num, HCn, HBn, HDn, HLn, HMn, HRn, HRTn, HRFn⟩
                  case measure => simp [intOf]; omega
                · refine AllReadyH.cons rfl (fun KK hK => ?_) AllReadyH.nil
                  go_simp
                  have HBA140 := hide ((unhide HB136).below ((Below.refl W136.heap.size W136).alloc (Nat.le_refl _) (.cells #[.slice y.ca y.cd.length y.cc] 28)))
                  refine hK.out _ _ trivial (fun hS => ?_)
                  clear hK KK
                  refine wpAnyH_ready (rs := [1]) (by kernel_rfl) (by simp) ?_
                  refine AllReadyH.cons rfl (fun KK hK => ?_) AllReadyH.nil
                  have q2 := (unhide HBA140).c 3 rfl
                  go_simp
                  refine hK.out _ _ trivial (fun hS => ?_)
                  clear hK KK q2
                  refine wpAnyH_ready (rs := [5]) (by kernel_rfl) (by simp) ?_
                  refine AllReadyH.cons rfl (fun KK hK => ?_) AllReadyH.nil
                  refine step_append_lies _ (by rfl) _ _ 24 (by rfl) b3 28 in3 _ 1 24 Tryz.underlying24 hi3 hz30 hz31 hz32 rfl (by omega) (.slice va M.length vc) M.length (vals bsN M) (by rfl) (rowBelow (unhide HD136).own ((Below.refl _ _).alloc (Nat.le_refl _) _)) ⟨W136.heap.size, 0, none⟩ 1 1 (bsN.cells y) (by rfl) (by rfl) (World.news_of_block (cs := #[.slice y.ca y.cd.length y.cc]) (t := 28) (fr := (0, 0)) (heap_alloc_new W136 _)) (fun u hu => by simp [bsN] at hu; rcases hu with rfl <;> rfl) (by omega) (by have := unhide HML; have := unhide HM3; unfold maxLen; omega) (by have := unhide HML; have := unhide HM3; omega) (by rw [World.size_alloc]; have := unhide HL136; omega) (W136.heap.size + 1) (by simp) ?_
                  intro g3 cap3 W142 hown hgrow hat hlt3
                  have al : Below W136.heap.size W136 (W136.alloc (.cells #[.slice y.ca y.cd.length y.cc] 28)) := (Below.refl _ _).alloc (Nat.le_refl _) _
                  have HD142 : Hid (Bld bsN W142 b3 (.slice (some ⟨g3, 0, none⟩) (M.length + 1) cap3) (M ++ [y])) := hide ((unhide HD136).snoc (y := y) (unhide HYO) (unhide HYL) (unhide HYN) hown hgrow hat)
                  have HC142 := hide (((unhide HC136).below al).row hgrow (fun x e => by have := unhide HVL x e; have := unhide HLO; omega))
                  have HB142 := hide (((unhide HB136).below al).grown hgrow (fun e => by have := unhide HVL gc e; have := unhide HLO; omega))
                  have HL142 : Hid (b3 ≤ W142.heap.size) := hide (by have := hgrow.size; rw [World.size_alloc] at this; have := unhide HL136; omega)
                  have HRT142 := hide (((unhide HRT136).below al).keep hgrow (unhide HAT) (fun x e => by have := unhide HVL x e; have := unhide HLO; omega))
                  have HRF142 := hide (((unhide HRF136).below al).keep hgrow (unhide HAF) (fun x e => by have := unhide HVL x e; have := unhide HLO; omega))
                  refine hK.out _ _ trivial (fun hS => ?_)
                  clear hK KK hown hgrow hat hlt3 al HC136 HB136 HD136 HL136 HRT136 HRF136
                  refine wpAnyH_take (i := 6) (v := .pointer (some ⟨gc, 3, none⟩)) rfl (by kernel_rfl) (by kernel_rfl) (by kernel_rfl) (fun _ _ _ h => h) (Or.inl ⟨by rfl, fun W _ => by go_simp⟩) hS ?_
                  go_simp
                  refine wpAnyH_ready (rs := [7]) (by kernel_rfl) (by simp) ?_
                  refine AllReadyH.cons rfl (fun KK hK => ?_) AllReadyH.nil
                  have q2 := (unhide HB142).c 3 rfl
                  have f2 := (unhide HB142).f 3
                  go_simp
                  have hgs := grownBy_set W142 gc 3 (.slice (some ⟨g3, 0, none⟩) (M.length + 1) cap3)
                  have HCn := hide ((unhide HC142).own hgs (by have := (unhide HLO); omega))
                  have HBn : Hid (Bx (W142.setCell ⟨gc, 3, none⟩ (.slice (some ⟨g3, 0, none⟩) (M.length + 1) cap3)) gc 26 #[.string ⟨nm.toArray⟩, .slice ta T.length tc, .slice fa F.length fcc, .slice (some ⟨g3, 0, none⟩) (M.length + 1) cap3]) := hide ((unhide HB142).set 3 _ rfl)
                  have HDn := hide ((unhide HD142).box hgs (by have := unhide HLO; omega))
                  have HLn : Hid (b3 ≤ (W142.setCell ⟨gc, 3, none⟩ (.slice (some ⟨g3, 0, none⟩) (M.length + 1) cap3)).heap.size) := hide (Nat.le_trans (unhide HL142) hgs.size)
                  have HMn : Hid ((M ++ [y]).length = qq3 + 1) := hide (by rw [List.length_append, unhide HML]; rfl)
                  have HRn : Hid (((M ++ [y]).map bsC ++ (repS loS (m3 - (qq3 + 1)) l s7).1, (repS loS (m3 - (qq3 + 1)) l s7).2) = (Cz, u8)) := hide (by
                    rw [← unhide HRP, rep_step (M.map bsC) (unhide HW0) (unhide HFD), show m3 - (qq3 + 1) = r by have := unhide HRE; omega, List.map_append, List.map_cons, List.map_nil, unhide HYC])
                  have HRTn := hide ((unhide HRT142).keep hgs (unhide HAT) (fun x e => by injection e with e; have := unhide HLO; omega))
                  have HRFn := hide ((unhide HRF142).keep hgs (unhide HAF) (fun x e => by injection e with e; have := unhide HLO; omega))
                  clear q2 f2 hgs HC142 HB142 HD142 HL142 HRT142 HRF142 HRP HML
                  refine hK.out _ _ trivial (fun hS => ?_)
                  clear hK KK hS
                  refine wpAnyH_done (by kernel_rfl) ?_ _
                  go_wp2
                  go_roundw
                  case rel => exact ⟨qq3 + 1, _, s7, _, by omega, by go_num, HCn, HBn, HDn, HLn, HMn, HRn, HRTn, HRFn⟩
                  case measure => simp [intOf]; omega
            | false =>
              have hno := of_decide_eq_false (unhide HP).symm
              have hrr : (M.map bsC, st) = (Cz, u8) := by
                rw [← unhide HRP]
                by_cases h0 : st.why = 0
                · rw [show m3 - qq3 = 0 by
                    by_cases hlt : qq3 < m3
                    · exact absurd ⟨hlt, h0⟩ hno
                    · omega]
                  exact (rep_done _).symm
                · exact (rep_stop _ h0).symm
              have HNO := hide hno
              clear HRP HP hno
              injection hrr with hr1 hr2
              have HMQ : Hid (M.length ≤ m3) := hide (by have := unhide HML; omega)
              have HMZ : Hid (st.why = 0 → M.length = m3) := hide (fun h0 => by have := unhide HML; have hh := unhide HNO; by_cases hlt : qq3 < m3; exact absurd ⟨hlt, h0⟩ hh; omega)
              clear HNO
              obtain ⟨xa, xc, hv, hrow, hall, hnil, hcap⟩ := (unhide HD130).outC
              subst hv
              obtain ⟨C, HE3x⟩ : ∃ t, t = M := ⟨_, rfl⟩
              subst HE3x
              have HCZ : Hid (C.map bsC = Cz) := hide hr1
              have HCx : Hid (K0 w wr g ao cap l u8 26 #[.string ⟨#[]⟩, .slice none 0 0, .slice none 0 0, .slice none 0 0]) := hide (by rw [← hr2]; exact unhide HC130)
              have HAC := hide hall
              have HNC : Hid (NeRow bsN xa C) := hide (unhide HD130).neOut
              have HRCx := hide hrow
              have HCL : Hid (C.length ≤ 64) := hide (by have := unhide HMQ; have := unhide HM3; omega)
              have HBx := HB130
              have HRTx := HRT130
              have HRFx := HRF130
              clear HML hr1 hr2 HC130 HMZ HB130 HRT130 HRF130 HD130 HL130 hrow hall hnil hcap
              have k0 := (unhide HCx).cu.bx.c 0 rfl
              have k1 := (unhide HCx).cu.bx.c 1 rfl
              have k3 := (unhide HCx).cu.bx.c 3 rfl
              go_upto_region 21 with fail
              go_cut [120] (fun pc wx => ∃ p : Bool, pc = .bool p ∧ Hid (p = decide (u8.why = 0 ∧ u8.at_ < l.length)) ∧ Hid (K0 w wx g ao cap l u8 26 #[.string ⟨#[]⟩, .slice none 0 0, .slice none 0 0, .slice none 0 0]) ∧ Hid (Bx wx gc 26 #[.string ⟨nm.toArray⟩, .slice ta T.length tc, .slice fa F.length fcc, .slice xa C.length xc]) ∧ Hid (RowAt clN wx ta T) ∧ Hid (RowAt fnN wx fa F) ∧ Hid (RowAt bsN wx xa C))
              case first =>
                have HX : Hid (∀ n, K0 w (wr.drewN n) g ao cap l u8 26 #[.string ⟨#[]⟩, .slice none 0 0, .slice none 0 0, .slice none 0 0] ∧ Bx (wr.drewN n) gc 26 #[.string ⟨nm.toArray⟩, .slice ta T.length tc, .slice fa F.length fcc, .slice xa C.length xc] ∧ RowAt clN (wr.drewN n) ta T ∧ RowAt fnN (wr.drewN n) fa F ∧ RowAt bsN (wr.drewN n) xa C) := hide (fun n => ⟨(unhide HCx).below (below_drew wr n), (unhide HBx).below (below_drew wr n), (unhide HRTx).below (below_drew wr n), (unhide HRFx).below (below_drew wr n), (unhide HRCx).below (below_drew wr n)⟩)
                by_cases h0 : u8.why = 0
                · have t0 : (u8.why == 0) = true := beq_t h0
                  by_cases h1 : u8.at_ < l.length
                  · have i1 : (u8.at_ : Int) < ((l.length : Nat) : Int) := by omega
                    have HP : Hid (true = decide (u8.why = 0 ∧ u8.at_ < l.length)) := hide (by symm; rw [decide_eq_true_iff]; exact ⟨h0, h1⟩)
                    clear h0 h1
                    go_quiet (fail)
                    go_wp2_with fail
                    go_meet
                    exact ⟨true, rfl, HP, hide (unhide HX nq).1, hide (unhide HX nq).2.1, hide (unhide HX nq).2.2.1, hide (unhide HX nq).2.2.2.1, hide (unhide HX nq).2.2.2.2⟩
                  · have i1 : ¬ (u8.at_ : Int) < ((l.length : Nat) : Int) := by omega
                    have HP : Hid (false = decide (u8.why = 0 ∧ u8.at_ < l.length)) := hide (by symm; rw [decide_eq_false_iff_not]; rintro ⟨_, h⟩; exact h1 h)
                    clear h0 h1
                    go_quiet (fail)
                    go_wp2_with fail
                    go_meet
                    exact ⟨false, rfl, HP, hide (unhide HX nq).1, hide (unhide HX nq).2.1, hide (unhide HX nq).2.2.1, hide (unhide HX nq).2.2.2.1, hide (unhide HX nq).2.2.2.2⟩
                · have t0 : (u8.why == 0) = false := beq_f h0
                  have HP : Hid (false = decide (u8.why = 0 ∧ u8.at_ < l.length)) := hide (by symm; rw [decide_eq_false_iff_not]; rintro ⟨h, _⟩; exact h0 h)
                  clear h0
                  go_quiet (fail)
                  go_wp2_with fail
                  go_meet
                  exact ⟨false, rfl, HP, hide (unhide HX nq).1, hide (unhide HX nq).2.1, hide (unhide HX nq).2.2.1, hide (unhide HX nq).2.2.2.1, hide (unhide HX nq).2.2.2.2⟩
              case rest =>
              clear HCx HBx HRTx HRFx HRCx k0 k1 k3
              obtain ⟨p, rfl, HP, HC20, HB20, HRT20, HRF20, HRC20⟩ := hcut
              rename World => wz
              cases p with
              | true =>
                have h := of_decide_eq_true (unhide HP).symm
                have HE2x := hide (show u9 = failS u8 u8.at_ 3 by rw [← unhide HE10, e1S, if_pos h])
                have HF := hide (cu_fail (unhide HC20).cu u8.at_ 3)
                have k1 := (unhide HC20).cu.bx.c 1 rfl
                clear h HP
                go_wp2_with fail
                refine (unhide HF).mono ?_
                rintro e W2x ⟨rfl, hc, hg⟩
                have HC21 : Hid (K0 w W2x g ao cap l u9 26 #[.string ⟨#[]⟩, .slice none 0 0, .slice none 0 0, .slice none 0 0]) := hide (by rw [unhide HE2x]; exact (unhide HC20).step hc hg)
                have HB21 := hide (box_step (unhide HB20) hg (by have := (unhide HLO); omega))
                have HRT21 := hide ((unhide HRT20).keep hg (unhide HAT) (fun x e => by injection e with e; have := unhide HLO; omega))
                have HRF21 := hide ((unhide HRF20).keep hg (unhide HAF) (fun x e => by injection e with e; have := unhide HLO; omega))
                have HRC21 := hide ((unhide HRC20).far hg (RowAll.mono (fun b hb => by have := unhide HLO; omega) (unhide HAC)))
                clear hc hg HF HE2x HC20 HB20 HRT20 HRF20 HRC20 k1
                have hgw := grown_row (W := W2x) w.heap.size #[.string ⟨nm.toArray⟩, .slice ta T.length tc, .slice fa F.length fcc, .slice xa C.length xc]
                have HZ : Hid (Bx (W2x.setRow w.heap.size #[.string ⟨nm.toArray⟩, .slice ta T.length tc, .slice fa F.length fcc, .slice xa C.length xc]) w.heap.size 26 #[.string ⟨nm.toArray⟩, .slice ta T.length tc, .slice fa F.length fcc, .slice xa C.length xc]) := hide (setRow_heap _ _ _ _ _ _ (unhide HC21).out)
                have HMR : Hid (MdR (W2x.setRow w.heap.size #[.string ⟨nm.toArray⟩, .slice ta T.length tc, .slice fa F.length fcc, .slice xa C.length xc]) w.heap.size ⟨⟨nm.toArray⟩, ta, tc, T, fa, fcc, F, xa, xc, C⟩) := hide ⟨(unhide HRT21).keep hgw (unhide HAT) (fun x e => by injection e with e; have := unhide HLO; omega), (unhide HRF21).keep hgw (unhide HAF) (fun x e => by injection e with e; have := unhide HLO; omega), (unhide HRC21).far hgw (RowAll.mono (fun b hb => by have := unhide HLO; omega) (unhide HAC)), RowAll.mono (fun b hb => by have := unhide HLO; omega) (unhide HAT), RowAll.mono (fun b hb => by have := unhide HLO; omega) (unhide HAF), RowAll.mono (fun b hb => by have := unhide HLO; omega) (unhide HAC), unhide HCT, unhide HCF, by show T.length ≤ _; have := unhide HTM; have := unhide HM1; omega, by show F.length ≤ _; have := unhide HFM; have := unhide HM2; omega, unhide HCL, by have := unhide HNML; show nm.toArray.size ≤ _; simp; omega, unhide HNF, unhide HNC, ⟨b3, RowAll.mono (fun b hb => by omega) (unhide HAF), unhide HAC⟩⟩
                have HCU := hide ((unhide HC21).cu.far hgw (by have := (unhide HC21).pl; omega) ((unhide HC21).bl.mono (fun b hb => by omega)))
                have HGG := hide (grownBy_more (unhide HC21).gr hgw (fun x e => Or.inl (by injection e with e; omega)))
                have HO := hide (unhide HC21).out
                have HBB := HB21
                clear hgw HC21 HB21 HRT21 HRF21 HRC21
                go_upto_region 23 with fail
                refine wp_region_lit ?_
                refine wpList_load_rowG (by kernel_rfl) 26 (.tmp 3) rfl gc rfl 26 #[.string ⟨nm.toArray⟩, .slice ta T.length tc, .slice fa F.length fcc, .slice xa C.length xc] (0, 0) _ (unhide HBB) Tryz.underlying26 rfl (by kernel_rfl) ?_
                refine wpList_store_row rfl 26 (.tmp 2) (.tmp 127) rfl w.heap.size #[.string ⟨nm.toArray⟩, .slice ta T.length tc, .slice fa F.length fcc, .slice xa C.length xc] (by kernel_rfl) (by kernel_rfl) 26 #[.string ⟨#[]⟩, .slice none 0 0, .slice none 0 0, .slice none 0 0] (unhide HO) (by kernel_rfl) rfl (by simp [Value.oneCell']) ?_
                go_simp
                refine wpList_nil ?_
                rename_i hKK
                refine hKK _ _ ?_
                clear hKK
                refine wp_ret ?_
                refine bodyPost_ret (results_bx rfl _ _ w.heap.size _ rfl (run_loadVar_row _ _ 26 26 _ (0, 0) _ (unhide HZ) Tryz.underlying26 rfl (by kernel_rfl))) rfl ⟨⟨⟨nm.toArray⟩, ta, tc, T, fa, fcc, F, xa, xc, C⟩, rfl, ?_, unhide HMR, unhide HCU, unhide HGG⟩
                show (⟨(⟨nm.toArray⟩ : ByteArray).toList, T.map clC, F.map fnC, C.map bsC⟩ : Mc) = _
                rw [ByteArray.toList_eq, unhide HTZ, unhide HFZ, unhide HCZ]
              | false =>
                have h := of_decide_eq_false (unhide HP).symm
                have HE2x : u9 = u8 := by rw [← unhide HE10, e1S, if_neg h]
                have HC21 : Hid (K0 w wz g ao cap l u9 26 #[.string ⟨#[]⟩, .slice none 0 0, .slice none 0 0, .slice none 0 0]) := hide (by rw [HE2x]; exact unhide HC20)
                have HB21 := HB20
                have HRT21 := HRT20
                have HRF21 := HRF20
                have HRC21 := HRC20
                clear h HP HE2x HC20 HB20 HRT20 HRF20 HRC20
                have hgw := grown_row (W := wz) w.heap.size #[.string ⟨nm.toArray⟩, .slice ta T.length tc, .slice fa F.length fcc, .slice xa C.length xc]
                have HZ : Hid (Bx (wz.setRow w.heap.size #[.string ⟨nm.toArray⟩, .slice ta T.length tc, .slice fa F.length fcc, .slice xa C.length xc]) w.heap.size 26 #[.string ⟨nm.toArray⟩, .slice ta T.length tc, .slice fa F.length fcc, .slice xa C.length xc]) := hide (setRow_heap _ _ _ _ _ _ (unhide HC21).out)
                have HMR : Hid (MdR (wz.setRow w.heap.size #[.string ⟨nm.toArray⟩, .slice ta T.length tc, .slice fa F.length fcc, .slice xa C.length xc]) w.heap.size ⟨⟨nm.toArray⟩, ta, tc, T, fa, fcc, F, xa, xc, C⟩) := hide ⟨(unhide HRT21).keep hgw (unhide HAT) (fun x e => by injection e with e; have := unhide HLO; omega), (unhide HRF21).keep hgw (unhide HAF) (fun x e => by injection e with e; have := unhide HLO; omega), (unhide HRC21).far hgw (RowAll.mono (fun b hb => by have := unhide HLO; omega) (unhide HAC)), RowAll.mono (fun b hb => by have := unhide HLO; omega) (unhide HAT), RowAll.mono (fun b hb => by have := unhide HLO; omega) (unhide HAF), RowAll.mono (fun b hb => by have := unhide HLO; omega) (unhide HAC), unhide HCT, unhide HCF, by show T.length ≤ _; have := unhide HTM; have := unhide HM1; omega, by show F.length ≤ _; have := unhide HFM; have := unhide HM2; omega, unhide HCL, by have := unhide HNML; show nm.toArray.size ≤ _; simp; omega, unhide HNF, unhide HNC, ⟨b3, RowAll.mono (fun b hb => by omega) (unhide HAF), unhide HAC⟩⟩
                have HCU := hide ((unhide HC21).cu.far hgw (by have := (unhide HC21).pl; omega) ((unhide HC21).bl.mono (fun b hb => by omega)))
                have HGG := hide (grownBy_more (unhide HC21).gr hgw (fun x e => Or.inl (by injection e with e; omega)))
                have HO := hide (unhide HC21).out
                have HBB := HB21
                clear hgw HC21 HB21 HRT21 HRF21 HRC21
                go_upto_region 23 with fail
                refine wp_region_lit ?_
                refine wpList_load_rowG (by kernel_rfl) 26 (.tmp 3) rfl gc rfl 26 #[.string ⟨nm.toArray⟩, .slice ta T.length tc, .slice fa F.length fcc, .slice xa C.length xc] (0, 0) _ (unhide HBB) Tryz.underlying26 rfl (by kernel_rfl) ?_
                refine wpList_store_row rfl 26 (.tmp 2) (.tmp 127) rfl w.heap.size #[.string ⟨nm.toArray⟩, .slice ta T.length tc, .slice fa F.length fcc, .slice xa C.length xc] (by kernel_rfl) (by kernel_rfl) 26 #[.string ⟨#[]⟩, .slice none 0 0, .slice none 0 0, .slice none 0 0] (unhide HO) (by kernel_rfl) rfl (by simp [Value.oneCell']) ?_
                go_simp
                refine wpList_nil ?_
                rename_i hKK
                refine hKK _ _ ?_
                clear hKK
                refine wp_ret ?_
                refine bodyPost_ret (results_bx rfl _ _ w.heap.size _ rfl (run_loadVar_row _ _ 26 26 _ (0, 0) _ (unhide HZ) Tryz.underlying26 rfl (by kernel_rfl))) rfl ⟨⟨⟨nm.toArray⟩, ta, tc, T, fa, fcc, F, xa, xc, C⟩, rfl, ?_, unhide HMR, unhide HCU, unhide HGG⟩
                show (⟨(⟨nm.toArray⟩ : ByteArray).toList, T.map clC, F.map fnC, C.map bsC⟩ : Mc) = _
                rw [ByteArray.toList_eq, unhide HTZ, unhide HFZ, unhide HCZ]
end Go.Proofs.YtibgfdjopikafaaGreatDoor
