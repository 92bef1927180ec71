/-
  provisolaw05.ring: where it tells false, no way leads from a block back to itself.
-/
import Derived.Test.YtdpfinnclnapbaaAh1
import Derived.Test.YtdpfinnclnapbaaOd2
namespace Go.Proofs.Ytdpfinnclnapbaa
open Go.RowKit Go.Maps

/-- A search from i under way: what is met, what lies ahead, what is done. -/
structure RI (S : Nat → List (Option Nat)) (i : Nat) (B : List Bool) (q P : List Nat) : Prop where
  p1 : ∀ x ∈ P, ∀ k, some k ∈ S x → B[k]? = some true
  p2 : ∀ x, B[x]? = some true → x ∈ P ∨ x ∈ q
  p3 : i ∈ P ∨ i ∈ q
theorem RI.done {S : Nat → List (Option Nat)} {i : Nat} {B : List Bool} {P : List Nat} (h : RI S i B [] P) {k : Nat} (hk : some k ∈ S i) (hs : Str S k i) : B[i]? = some true := by
  have hi : i ∈ P := by
    rcases h.p3 with h | h
    · exact h
    · cases h
  have key : ∀ z, Str S k z → B[z]? = some true := by
    intro z hz
    induction hz with
    | refl => exact h.p1 i hi k hk
    | step _ e ih =>
      rename_i y z _
      have hy : y ∈ P := by
        rcases h.p2 y ih with h | h
        · exact h
        · cases h
      exact h.p1 y hy z e
  exact key i hs
/-- While the ways on of x are gone through. -/
structure RJ (S : Nat → List (Option Nat)) (i : Nat) (B : List Bool) (q P : List Nat) (x m : Nat) : Prop where
  p1 : ∀ y ∈ P, ∀ k, some k ∈ S y → B[k]? = some true
  pm : ∀ j k, j < m → (S x)[j]? = some (some k) → B[k]? = some true
  p2 : ∀ y, B[y]? = some true → y ∈ P ∨ y = x ∨ y ∈ q
  p3 : i ∈ P ∨ i = x ∨ i ∈ q
theorem RJ.start {S : Nat → List (Option Nat)} {i x : Nat} {B : List Bool} {q P : List Nat} (h : RI S i B (x :: q) P) : RJ S i B q P x 0 :=
  ⟨h.p1, fun j k hj => by omega, fun y hy => by rcases h.p2 y hy with h | h; exact .inl h; exact .inr (by simpa using h), by rcases h.p3 with h | h; exact .inl h; exact .inr (by simpa using h)⟩
theorem RJ.skip {S : Nat → List (Option Nat)} {i x m : Nat} {B : List Bool} {q P : List Nat} (h : RJ S i B q P x m) (hs : ∀ k, (S x)[m]? = some (some k) → B[k]? = some true) : RJ S i B q P x (m + 1) :=
  ⟨h.p1, fun j k hj hk => by
    by_cases e : j = m
    · subst e; exact hs k hk
    · exact h.pm j k (by omega) hk, h.p2, h.p3⟩
theorem RJ.put {S : Nat → List (Option Nat)} {i x m k : Nat} {B : List Bool} {q P : List Nat} (h : RJ S i B q P x m) (hk : (S x)[m]? = some (some k)) (hl : k < B.length) : RJ S i (B.set k true) (q ++ [k]) P x (m + 1) := by
  have up : ∀ y, B[y]? = some true → (B.set k true)[y]? = some true := fun y hy => (set_true hl).2 (.inr hy)
  refine ⟨fun y hy z hz => up z (h.p1 y hy z hz), fun j z hj hz => ?_, fun y hy => ?_, ?_⟩
  · by_cases e : j = m
    · subst e
      rw [hk] at hz
      injection hz with hz
      injection hz with hz
      subst hz
      exact (set_true hl).2 (.inl rfl)
    · exact up z (h.pm j z (by omega) hz)
  · rcases (set_true hl).1 hy with h1 | h1
    · rw [h1]; exact .inr (.inr (by simp))
    · rcases h.p2 y h1 with h2 | h2 | h2
      · exact .inl h2
      · exact .inr (.inl h2)
      · exact .inr (.inr (List.mem_append_left _ h2))
  · rcases h.p3 with h2 | h2 | h2
    · exact .inl h2
    · exact .inr (.inl h2)
    · exact .inr (.inr (List.mem_append_left _ h2))
theorem RJ.done {S : Nat → List (Option Nat)} {i x m : Nat} {B : List Bool} {q P : List Nat} (h : RJ S i B q P x m) (hm : (S x).length ≤ m) : RI S i B q (x :: P) := by
  refine ⟨fun y hy k hk => ?_, fun y hy => ?_, ?_⟩
  · rcases List.mem_cons.1 hy with hy | hy
    · rw [hy] at hk
      obtain ⟨j, hj⟩ := List.mem_iff_getElem?.1 hk
      exact h.pm j k (by have := (List.getElem?_eq_some_iff.1 hj).1; omega) hj
    · exact h.p1 y hy k hk
  · rcases h.p2 y hy with h2 | h2 | h2
    · exact .inl (List.mem_cons_of_mem _ h2)
    · exact .inl (by rw [h2]; simp)
    · exact .inr h2
  · rcases h.p3 with h2 | h2 | h2
    · exact .inl (List.mem_cons_of_mem _ h2)
    · exact .inl (by rw [h2]; simp)
    · exact .inr h2

structure RS (w wr : World) (gI n : Nat) (vq : Value) (B : List Bool) (q : List Nat) : Prop where
  qu : QJ wr (w.heap.size + 1) vq (jn q)
  met : MR w wr gI n (bAt B)
  gi : gI = w.heap.size
theorem RS.below {w wr w' : World} {gI n : Nat} {vq : Value} {B : List Bool} {q : List Nat} (h : RS w wr gI n vq B q) (hb : Below wr.heap.size wr w') : RS w w' gI n vq B q := ⟨h.qu.below hb, h.met.below hb, h.gi⟩
theorem RS.ne {w wr : World} {gI n : Nat} {vq : Value} {B : List Bool} {q : List Nat} (h : RS w wr gI n vq B q) : vq.ownBlock ≠ some gI := fun e => by
  have := (h.qu.lt gI e).1
  have := h.gi
  omega

set_option maxRecDepth 20000 in
set_option maxHeartbeats 8000000 in
theorem ring_any (ao : Option Addr) (c : Nat) (G : List Bx) (w : World) (hx : BksAt w ao G) (hz : G.length ≤ 3518437208883) (hnl : ∀ y ∈ G, y.nx.length ≤ 17592186044416) :
    Calls Try.prog 13 #[.slice ao G.length c] w fun e w' => ∃ b : Nat, e = .returned (.bool (decide (b = 1))) ∧ (b ≠ 1 → ∀ i, i < G.length → ∀ k, some k ∈ suG G i → ¬ Str (suG G) k i) ∧ Below w.heap.size w w' := by
  obtain ⟨i0, hi, hz0, hz1, hz2⟩ := info_parts infoJ
  have hmk := run_make_row' (P := Try.prog) 42 4 (.bool false) 1 Try.underlying42 infoBo rfl .i64 .i64 G.length (by omega) (by omega)
  have HX := hide hx
  have HNL := hide hnl
  clear hx hnl
  go_enter Try.func13, Try.ntmps13
  go_wp2
  go_loopw [12] (fun i wr => ∃ k : Nat, k ≤ G.length ∧ i = .int .i64 (k : Int) ∧ Hid (∀ i, i < k → ∀ z, some z ∈ suG G i → ¬ Str (suG G) z i) ∧ Hid (Below w.heap.size w wr)) (fun i _ => G.length - (intOf i).toNat)
  case atStart => exact ⟨0, by omega, rfl, hide (fun i h => by omega), hide (Below.refl _ _)⟩
  case round =>
    obtain ⟨k, hk, rfl, HA, HB⟩ := hrel
    obtain ⟨wo, rfl⟩ : ∃ wo, wo = wr := ⟨_, rfl⟩
    by_cases hkl : k < G.length
    · have j1 : ((k : Nat) : Int) < ((G.length : Nat) : Int) := by omega
      have HM0 := hide (MR.made (Below.refl wo.heap.size wo) G.length)
      have hs1 : (wo.alloc (.cells (madeCells #[.bool false] G.length) 4)).heap.size = wo.heap.size + 1 := by simp
      go_upto_region 5 with fail
      generalize (wo.alloc (.cells (madeCells #[.bool false] G.length) 4)) = w1 at HM0 hs1 ⊢
      have HRS : Hid (RS wo (w1.alloc (.cells #[.int .i64 ((k : Nat) : Int)] 3)) wo.heap.size G.length (.slice (some ⟨w1.heap.size, 0, none⟩) 1 1) (List.replicate G.length false) [k]) := hide ⟨QJ.of (OwnJ.new w1 _ _ (by omega)) (by intro e; injection e with e; cases e), (unhide HM0).below ((Below.refl _ _).alloc (Nat.le_refl _) _), rfl⟩
      have HRI : Hid (RI (suG G) k (List.replicate G.length false) [k] []) := hide ⟨(fun x hx => by cases hx), (fun x hx => by
        rw [List.getElem?_replicate] at hx
        split at hx <;> cases hx), .inr (by simp)⟩
      clear hs1
      go_upto_region 6 with fail
      generalize (w1.alloc (.cells #[.int .i64 ((k : Nat) : Int)] 3)) = w2 at HRS ⊢
      generalize w1.heap.size = gq at HRS ⊢
      generalize hgI : wo.heap.size = gI at HRS ⊢
      clear HM0 hgI
      go_loopg [5] (G.length + 1) (fun m vq wq => ∃ (B : List Bool) (q P : List Nat), Hid (RS wo wq gI G.length vq B q) ∧ Hid (RI (suG G) k B q P) ∧ Hid (B.length = G.length ∧ (∀ x ∈ q, x < G.length)) ∧ q.length + fls B ≤ m ∧ m ≤ G.length + 1)
      case atStart => exact ⟨_, [k], [], HRS, HRI, hide ⟨by simp, fun x hx => by rw [List.mem_singleton.1 hx]; exact hkl⟩, by rw [fls_rep]; simp; omega, Nat.le_refl _⟩
      case round =>
        clear HRS HRI w2
        obtain ⟨B, q, P, HS, HI, HC, hf, hgk⟩ := hrel
        cases q with
        | nil =>
          obtain ⟨qg, qo, qc, _, rfl, _⟩ := (unhide HS).qu
          have hbk := List.getElem?_eq_getElem (show k < B.length by rw [(unhide HC).1]; exact hkl)
          generalize B[k]'(by rw [(unhide HC).1]; exact hkl) = bk at hbk
          have hck := (unhide HS).met.cellB hkl hbk
          have HBK := hide hbk
          have HB2 := hide ((unhide HB).trans ((unhide HS).met.bel.mono (unhide HB).size))
          clear hbk hmk hf
          cases bk
          · have HA2 : Hid (∀ i, i < k + 1 → ∀ z, some z ∈ suG G i → ¬ Str (suG G) z i) := hide (fun i hi2 z hzz hst => by
              by_cases e : i = k
              · subst e
                have := (unhide HI).done hzz hst
                rw [unhide HBK] at this
                cases this
              · exact unhide HA i (by omega) z hzz hst)
            go_wp2
            go_roundw
            case rel => exact ⟨k + 1, by omega, by go_num, HA2, HB2⟩
            case measure => simp [intOf]; omega
          · go_wp2
            go_ret
            exact ⟨1, rfl, fun h => absurd rfl h, unhide HB2⟩
        | cons x q =>
          have hxl : x < G.length := (unhide HC).2 x (by simp)
          have hQ0 := (unhide HS).qu
          rw [show jn (x :: q) = ((x : Nat) : Int) :: jn q from rfl] at hQ0
          obtain ⟨qg, qo, qc, qo2, rfl, hqc, hcell, hif, hQ1⟩ := hQ0.head
          have HIF := hide hif
          have hy := List.getElem?_eq_getElem hxl
          have hym := unhide HNL _ (List.getElem_mem hxl)
          have HSU := hide (suG_at hy)
          obtain ⟨b, off, rfl, hyb⟩ := (unhide HX).below ((unhide HB).trans ((unhide HS).met.bel.mono (unhide HB).size)) x _ hy
          generalize G[x] = y at hy hym HSU hyb
          have HY := hide hy
          obtain ⟨yf, yl, yo, yc, yn⟩ := y
          have q2 := hyb.c2
          simp only at hym HSU q2
          have HS1 : Hid (RS wo wr gI G.length (.slice (some ⟨qg, qo2, none⟩) (jn q).length (qc - 1)) B q) := hide ⟨hQ1, (unhide HS).met, (unhide HS).gi⟩
          have HJ0 := hide (RJ.start (unhide HI))
          have hjx : ((x : Nat) : Int) < ((G.length : Nat) : Int) := by omega
          have hqz : (0 : Int) < (((jn q).length + 1 : Nat) : Int) := by omega
          have HCQ : Hid (B.length = G.length ∧ (∀ x ∈ q, x < G.length) ∧ q.length + fls B + 1 ≤ gk) := hide ⟨(unhide HC).1, fun z hz2 => (unhide HC).2 z (by simp [hz2]), by rw [List.length_cons] at hf; omega⟩
          clear hQ0 hQ1 hif hy hyb HS HI HC hf hmk
          go_upto_region 9 with fail
          rw [unhide HIF]
          clear hcell HIF
          go_wp2
          clear q2
          obtain ⟨wz, rfl⟩ : ∃ wz, wz = wr := ⟨_, rfl⟩
          go_loopw [5, 34] (fun vq i wv => ∃ (m : Nat) (Bm : List Bool) (qm : List Nat), m ≤ yn.length ∧ i = .int .i64 (m : Int) ∧ Hid (RS wo wv gI G.length vq Bm qm) ∧ Hid (RJ (suG G) k Bm qm P x m) ∧ Hid (Bm.length = G.length ∧ (∀ z ∈ qm, z < G.length) ∧ qm.length + fls Bm + 1 ≤ gk)) (fun _ i _ => yn.length - (intOf i).toNat)
          case atStart => exact ⟨0, B, q, by omega, rfl, HS1, HJ0, HCQ⟩
          case round =>
            clear HS1 HJ0 HCQ
            obtain ⟨m, Bm, qm, hm, rfl, HSm, HJm, HCm⟩ := hrel
            by_cases hml : m < yn.length
            · have j2 : ((m : Nat) : Int) < ((yn.length : Nat) : Int) := by omega
              have ha := List.getElem?_eq_getElem hml
              generalize yn[m] = a at ha
              have HQ : Hid ((suG G x)[m]? = some (frI G a)) := hide (by rw [unhide HSU, List.getElem?_map, ha]; rfl)
              have HBw := hide ((unhide HB).trans ((unhide HSm).met.bel.mono (unhide HB).size))
              obtain ⟨b2, off2, e2, hyb⟩ := (unhide HX).below (unhide HBw) x _ (unhide HY)
              obtain ⟨nb, no, rfl, hac⟩ := hyb.nxt m a ha
              have HFr := hide (lawFrom_any (some ⟨b, off, none⟩) c G a wr ((unhide HX).below (unhide HBw)) (by omega))
              clear ha hyb e2
              cases hfr : frI G a with
              | none =>
                rw [frZ_none hfr] at HFr
                rw [hfr] at HQ
                have HJ2 := hide ((unhide HJm).skip (fun z hz2 => by rw [unhide HQ] at hz2; cases hz2))
                clear hfr
                go_wp2_with fail
                refine (unhide HFr).mono ?_
                rintro e w2 ⟨rfl, hB2⟩
                have HS2 := hide ((unhide HSm).below hB2)
                clear hB2 hac
                go_wp2
                go_roundw
                case rel => exact ⟨m + 1, Bm, qm, by omega, by go_num, HS2, HJ2, HCm⟩
                case measure => simp [intOf]; omega
              | some j =>
                rw [frZ_at hfr] at HFr
                rw [hfr] at HQ
                obtain ⟨xx, hxj, _⟩ := frI_some hfr
                have hjl : j < G.length := (List.getElem?_eq_some_iff.1 hxj).1
                have jj : ((j : Nat) : Int) < ((G.length : Nat) : Int) := by omega
                have jj0 : ((j : Nat) : Int) ≥ 0 := by omega
                have hbj := List.getElem?_eq_getElem (show j < Bm.length by rw [(unhide HCm).1]; exact hjl)
                generalize Bm[j]'(by rw [(unhide HCm).1]; exact hjl) = bj at hbj
                clear hfr hxj
                go_wp2_with fail
                refine (unhide HFr).mono ?_
                rintro e w2 ⟨rfl, hB2⟩
                have HS2 := hide ((unhide HSm).below hB2)
                have hcj := (unhide HS2).met.cellB hjl hbj
                have hfj := (unhide HS2).met.row.frozen j
                have HBJ := hide hbj
                clear hB2 hac hbj
                cases bj
                · have HJ2 := hide ((unhide HJm).put (unhide HQ) (by rw [(unhide HCm).1]; exact hjl))
                  have HMk := hide ((unhide HS2).met.marked (unhide HCm).1 hjl)
                  have HQk := hide ((unhide HS2).qu.setOther (a := ⟨gI, j, none⟩) (unhide HS2).ne (.bool true))
                  have HC2 : Hid ((Bm.set j true).length = G.length ∧ (∀ z ∈ qm ++ [j], z < G.length) ∧ (qm ++ [j]).length + fls (Bm.set j true) + 1 ≤ gk) := hide (by
                    obtain ⟨h1, h2, h3⟩ := unhide HCm
                    have h4 := fls_set (unhide HBJ)
                    refine ⟨by rw [List.length_set]; exact h1, fun z hz2 => ?_, by rw [List.length_append, List.length_singleton]; omega⟩
                    rcases List.mem_append.1 hz2 with h | h
                    · exact h2 z h
                    · rw [List.mem_singleton.1 h]; exact hjl)
                  have hgie := (unhide HS2).gi
                  have HGE := hide hgie
                  clear hgie
                  go_upto_region 15 with fail
                  generalize (w2.setCell ⟨gI, j, none⟩ (.bool true)) = w3 at HMk HQk ⊢
                  clear hcj hfj HS2
                  have hal : Below w3.heap.size w3 (w3.alloc (.cells #[.int .i64 ((j : Nat) : Int)] 3)) := (Below.refl _ _).alloc (Nat.le_refl _) _
                  have HM4 := hide ((unhide HMk).below hal)
                  have HQ4 := hide ((unhide HQk).below hal)
                  have hs3 : wo.heap.size + 1 ≤ w3.heap.size := by have h1 := (unhide HMk).row.lt; have h2 := unhide HGE; omega
                  have hql : (jn qm).length ≤ 17000000000000 := by rw [jn_len]; have := (unhide HCm).2.2; omega
                  clear hal
                  go_wp2_with (at_builtin; refine wpList_append_q rfl _ _ rfl (wo.heap.size + 1) i0 hi hz0 hz1 hz2 _ (jn qm) rfl (unhide HQ4) ((j : Nat) : Int) ⟨w3.heap.size, 0, none⟩ 1 rfl (cell_one_newJ _ _ _) hql (by first | omega | (rw [World.size_alloc]; omega)) ?_)
                  intro v8 w8 hQ8 hG8 _
                  have HS8 : Hid (RS wo w8 gI G.length v8 (Bm.set j true) (qm ++ [j])) := hide ⟨by rw [show jn (qm ++ [j]) = jn qm ++ [((j : Nat) : Int)] from by unfold jn; simp]; exact hQ8, (unhide HM4).grown hG8 (fun e => by have h1 := ((unhide HQ4).lt gI e).1; have h2 := unhide HGE; omega) (fun q e => by have := ((unhide HQ4).lt q e).1; omega), unhide HGE⟩
                  clear hQ8 hG8
                  go_wp2
                  go_roundw
                  case rel => exact ⟨m + 1, _, _, by omega, by go_num, HS8, HJ2, HC2⟩
                  case measure => simp [intOf]; omega
                · have HJ2 := hide ((unhide HJm).skip (fun z hz2 => by rw [unhide HQ] at hz2; injection hz2 with hz2; injection hz2 with hz2; rw [← hz2]; exact unhide HBJ))
                  clear hfj
                  go_wp2
                  go_roundw
                  case rel => exact ⟨m + 1, Bm, qm, by omega, by go_num, HS2, HJ2, HCm⟩
                  case measure => simp [intOf]; omega
            · have HI2 := hide ((unhide HJm).done (by rw [unhide HSU, List.length_map]; omega))
              have hq9 := (unhide HCm).2.2
              have HC9 : Hid (Bm.length = G.length ∧ (∀ z ∈ qm, z < G.length)) := hide ⟨(unhide HCm).1, (unhide HCm).2.1⟩
              go_wp2
              go_roundg (qm.length + fls Bm)
              case measure => omega
              case rel => exact ⟨Bm, qm, x :: P, HSm, HI2, HC9, Nat.le_refl _, by omega⟩
    · obtain rfl : k = G.length := by omega
      go_wp2
      go_ret
      exact ⟨0, rfl, fun _ => unhide HA, unhide HB⟩
end Go.Proofs.Ytdpfinnclnapbaa
