/-
  Contracts of frames.Empty, Push, Store and Pop: what the plain functions say; nothing old is turned.
-/
import Derived.Test.YtihkodfcgfnjoaaFrD
import Derived.Laws.ResultCell
namespace Go.Proofs.Ytihkodfcgfnjoaa
open Go.RowKit

def frTwo (p : Fr × Int) : Value := .tuple #[.agg (frA p.1), .int .i64 p.2]
def frThree (p : Fr × Nat × Int) : Value := .tuple #[.agg (frA p.1), .int .u8 (p.2.1 : Int), .int .i64 p.2.2]
theorem run_addr (g : Nat) (w : World) : (asAddr (.pointer (some ⟨g, 0, none⟩))).run Try.prog w = .ok ⟨g, 0, none⟩ w := by simp [asAddr]
theorem results_fr2 {fn : Func} {p u : Tmp} (h : fn.results = #[.cell p 27, .tmp u]) (tmps : Array Value) (W : World) (g : Nat) (f : Fr) (e : Int) (hf : FrOk f)
    (hp : tmps.getD p undef = .pointer (some ⟨g, 0, none⟩)) (hu : tmps.getD u undef = .int .i64 e) (hg : FAt W g f) : (results fn tmps).run Try.prog W = .ok (frTwo (f, e)) W := by
  rw [results_cell_tmp h, hp, hu, run_addr, Result.andThen_ok, run_loadVar_row W g 27 27 (frA f) (0, 0) _ hg Try.underlying27 rfl (sizeFr hf), Result.andThen_ok]
  rfl
theorem results_cell_tmp2 {fn : Func} {p u v : Tmp} {ty : TypeId} (h : fn.results = #[.cell p ty, .tmp u, .tmp v]) (tmps : Array Value) (P : Program) (w : World) :
    (results fn tmps).run P w =
      ((asAddr (tmps.getD p undef)).run P w).andThen fun a w₁ => ((loadVar ty a).run P w₁).andThen fun x w₂ => .ok (.tuple #[x, tmps.getD u undef, tmps.getD v undef]) w₂ := by
  simp only [results, h]
  simp [Sem.run_bind, Result.andThen]
theorem results_fr3 {fn : Func} {p u v : Tmp} (h : fn.results = #[.cell p 27, .tmp u, .tmp v]) (tmps : Array Value) (W : World) (g : Nat) (f : Fr) (t : Nat) (e : Int) (hf : FrOk f)
    (hp : tmps.getD p undef = .pointer (some ⟨g, 0, none⟩)) (hu : tmps.getD u undef = .int .u8 (t : Int)) (hv : tmps.getD v undef = .int .i64 e) (hg : FAt W g f) : (results fn tmps).run Try.prog W = .ok (frThree (f, t, e)) W := by
  rw [results_cell_tmp2 h, hp, hu, hv, run_addr, Result.andThen_ok, run_loadVar_row W g 27 27 (frA f) (0, 0) _ hg Try.underlying27 rfl (sizeFr hf), Result.andThen_ok]
  rfl
theorem run_buildZ (w : World) : (Instr.build 27 #[]).run Try.prog w = .ok (.agg (frA frZ)) w := run_build w 27 _ _ (by kernel_rfl)

def pushD (f : Fr) (t : Nat) : Fr × Int :=
  if shapeD f = false then (frZ, 32) else if nF f = 24 then (frZ, 31) else (⟨f.lo, f.he + 1, (trimL (nF f) f.sl).set (nF f) t⟩, 0)
theorem set_ok {f : Fr} (hf : FrOk f) {i t : Nat} (ht : t < 256) : FrOk { f with sl := f.sl.set i t } := by
  refine ⟨by simp [hf.len], fun x hx => ?_, hf.lo, hf.he⟩
  rcases List.mem_or_eq_of_mem_set hx with h | h
  · exact hf.byte x h
  · rw [h]; exact ht

set_option maxHeartbeats 400000 in
theorem Push_any (f : Fr) (t : Nat) (w : World) (hf : FrOk f) (ht : t < 256) :
    Calls Try.prog 21 #[.agg (frA f), .int .u8 (t : Int)] w fun e w' => e = .returned (frTwo (pushD f t)) ∧ Below w.heap.size w w' := by
  have HF := hide hf
  have h1 : FAt ((w.alloc (.cells (frA f) 27)).alloc (.cells (frA frZ) 27)) w.heap.size f := (FAt.new w f).below ((Below.refl _ _).alloc (Nat.le_refl _) _) (by simp)
  have h2 : FAt ((w.alloc (.cells (frA f) 27)).alloc (.cells (frA frZ) 27)) (w.heap.size + 1) frZ := by
    have := FAt.new (w.alloc (.cells (frA f) 27)) frZ
    rw [World.size_alloc] at this
    exact this
  have hB : Below w.heap.size w ((w.alloc (.cells (frA f) 27)).alloc (.cells (frA frZ) 27)) := ((Below.refl _ _).alloc (Nat.le_refl _) _).alloc (by simp) _
  have H1 := hide h1
  have H2 := hide h2
  have HB := hide hB
  have hbz := run_buildZ
  clear hf h1 h2 hB
  go_enter Try.func21, Try.ntmps21
  go_wp2_with (refine wpList_load_row rfl 27 _ rfl w.heap.size rfl 27 (frA f) (0, 0) _ (unhide H1) Try.underlying27 rfl (sizeFr (unhide HF)) ?_)
  rw [frZ_eq]
  generalize ((w.alloc (.cells (frA f) 27)).alloc (.cells (frA frZ) 27)) = W at H1 H2 HB ⊢
  refine (shapeCanBe_any f _ (unhide HF)).mono ?_
  rintro e W1 ⟨rfl, hB1⟩
  have K1 := hide ((unhide H1).below hB1 (unhide H1).lt)
  have K2 := hide ((unhide H2).below hB1 (unhide H2).lt)
  have HB1 := hide ((unhide HB).trans (hB1.mono (unhide HB).size))
  clear hB1 H1 H2 HB W
  by_cases hs : shapeD f = true
  · have HS := hide hs
    obtain ⟨h0, h1, h2, h3⟩ := shapeD_iff.1 hs
    rw [hs]
    clear hs
    go_wp2_with (refine wpList_load_row rfl 27 _ rfl w.heap.size rfl 27 (frA f) (0, 0) _ (unhide K1) Try.underlying27 rfl (sizeFr (unhide HF)) ?_)
    refine (size_any f _ (unhide HS)).mono ?_
    rintro e W2 ⟨rfl, hB2⟩
    have L1 := hide ((unhide K1).below hB2 (unhide K1).lt)
    have L2 := hide ((unhide K2).below hB2 (unhide K2).lt)
    have HB2 := hide ((unhide HB1).trans (hB2.mono (unhide HB1).size))
    clear hB2 K1 K2 HB1 W1
    by_cases hn : nF f = 24
    · have HR : Hid (pushD f t = (frZ, 31)) := hide (by unfold pushD; rw [if_neg (by rw [unhide HS]; simp), if_pos hn])
      have b1 : ((f.lo + f.he : Int) == 24) = true := beq_t (by unfold nF at hn; omega)
      clear hn
      go_wp2_with (refine wpList_store_row rfl 27 _ _ rfl (w.heap.size + 1) (frA frZ) rfl rfl 27 (frA frZ) (unhide L2) (sizeFr frZ_ok) rfl (frA_one _) ?_)
      exact bodyPost_ret (v := frTwo (frZ, 31)) (results_fr2 rfl _ _ (w.heap.size + 1) frZ 31 frZ_ok rfl rfl ((unhide L2).row _)) rfl ⟨by rw [unhide HR], below_setRow' (unhide HB2) (by omega) _⟩
    · have HN24 : Hid (nF f < 24) := hide (by have := shape_n (unhide HS); omega)
      have HR : Hid (pushD f t = (⟨f.lo, f.he + 1, (trimL (nF f) f.sl).set (nF f) t⟩, 0)) := hide (by unfold pushD; rw [if_neg (by rw [unhide HS]; simp), if_neg hn])
      have b1 : ((f.lo + f.he : Int) == 24) = false := beq_f (by unfold nF at hn; omega)
      have b2 : f.lo + f.he < 24 := by have := unhide HN24; unfold nF at this; omega
      clear hn
      go_wp2_with (refine wpList_load_row rfl 27 _ rfl w.heap.size rfl 27 (frA f) (0, 0) _ (unhide L1) Try.underlying27 rfl (sizeFr (unhide HF)) ?_)
      refine (trimmed_any f _ (unhide HF) (unhide HS)).mono ?_
      rintro e W3 ⟨rfl, hB3⟩
      have M1 := hide ((unhide L1).below hB3 (unhide L1).lt)
      have M2 := hide ((unhide L2).below hB3 (unhide L2).lt)
      have HB3 := hide ((unhide HB2).trans (hB3.mono (unhide HB2).size))
      clear hB3 L1 L2 HB2 W2
      have HO := hide (trim_ok (unhide HF) (unhide HS))
      have HST : Hid (shapeD (trimD f) = true) := hide (unhide HS)
      have N1 := hide ((unhide M1).row (trimD f))
      have N2 := hide ((unhide M2).rowOther (g := w.heap.size) (trimD f) (by omega))
      have HB4 := hide (below_setRow' (unhide HB3) (Nat.le_refl _) (frA (trimD f)))
      go_wp2_with (first | (refine wpList_load_row rfl 27 _ rfl w.heap.size rfl 27 (frA (trimD f)) (0, 0) _ (unhide N1) Try.underlying27 rfl (sizeFr (unhide HO)) ?_) | (refine wpList_store_row rfl 27 _ _ rfl w.heap.size (frA (trimD f)) rfl rfl 27 (frA f) (unhide M1) (sizeFr (unhide HO)) (sizeEq (unhide HF) (unhide HO)) (frA_one _) ?_))
      generalize (W3.setRow w.heap.size (frA (trimD f))) = W4 at N1 N2 HB4 ⊢
      clear M1 M2 HB3 W3
      refine (size_any (trimD f) _ (unhide HST)).mono ?_
      rintro e W5 ⟨rfl, hB5⟩
      have P1 := hide ((unhide N1).below hB5 (unhide N1).lt)
      have P2 := hide ((unhide N2).below hB5 (unhide N2).lt)
      have HB5 := hide ((unhide HB4).trans (hB5.mono (unhide HB4).size))
      clear hB5 N1 N2 HB4 W4
      obtain ⟨n, hn⟩ : ∃ n : Nat, (trimD f).lo + (trimD f).he = (n : Int) := ⟨nF f, by show f.lo + f.he = _; unfold nF; omega⟩
      have hn24 : n < 24 := by have : f.lo + f.he = (n : Int) := hn; omega
      have HN : Hid (nF f = n) := hide (by have : f.lo + f.he = (n : Int) := hn; unfold nF; omega)
      rw [hn]
      clear hn
      have hlen : n < (trimD f).sl.length := by rw [(unhide HO).len]; exact hn24
      have c1 := (unhide P1).slot (List.getElem?_eq_getElem hlen)
      generalize (trimD f).sl[n] = old at c1
      have z1 := (unhide P1).frozen (2 + n)
      have i1 : ((n : Nat) : Int) < 24 := by omega
      have Q1 := hide ((unhide P1).set n t)
      have Q2 := hide ((unhide P2).cellOther ⟨w.heap.size, 2 + n, none⟩ (.int .u8 (t : Int)) (by simp))
      have HB6 : Hid (Below w.heap.size w (W5.setCell ⟨w.heap.size, 2 + n, none⟩ (.int .u8 (t : Int)))) := hide ((unhide HB5).setCell (p := ⟨w.heap.size, 2 + n, none⟩) (Nat.le_refl _) _)
      have c2 : (W5.setCell ⟨w.heap.size, 2 + n, none⟩ (.int .u8 (t : Int))).cell? ⟨w.heap.size, 1, none⟩ = some (.int .i64 f.he) := (unhide Q1).he
      have z2 : (W5.setCell ⟨w.heap.size, 2 + n, none⟩ (.int .u8 (t : Int))).frozen? ⟨w.heap.size, 1, none⟩ = false := (unhide Q1).frozen 1
      clear hlen
      have R1 : Hid (FAt ((W5.setCell ⟨w.heap.size, 2 + n, none⟩ (.int .u8 (t : Int))).setCell ⟨w.heap.size, 1, none⟩ (.int .i64 (f.he + 1))) w.heap.size ⟨f.lo, f.he + 1, (trimL (nF f) f.sl).set n t⟩) := hide ((unhide Q1).setHe (f.he + 1))
      have R2 := hide ((unhide Q2).cellOther ⟨w.heap.size, 1, none⟩ (.int .i64 (f.he + 1)) (by simp))
      have HB7 := hide ((unhide HB6).setCell (p := ⟨w.heap.size, 1, none⟩) (Nat.le_refl _) (.int .i64 (f.he + 1)))
      have HOK : Hid (FrOk ⟨f.lo, f.he + 1, (trimL (nF f) f.sl).set n t⟩) := hide (by
        have h := set_ok (unhide HO) (i := n) ht
        exact ⟨h.len, h.byte, h.lo, by constructor <;> show _ ≤ _ <;> simp only <;> omega⟩)
      rw [unhide HN] at R1 HOK HR
      generalize (Fr.mk f.lo (f.he + 1) ((trimL n f.sl).set n t)) = F at R1 HOK HR
      go_wp2_with (first | (refine wpList_load_row rfl 27 _ rfl w.heap.size rfl 27 (frA F) (0, 0) _ (unhide R1) Try.underlying27 rfl (sizeFr (unhide HOK)) ?_) | (refine wpList_store_row rfl 27 _ _ rfl (w.heap.size + 1) (frA F) rfl rfl 27 (frA frZ) (unhide R2) (sizeFr (unhide HOK)) (sizeEq frZ_ok (unhide HOK)) (frA_one _) ?_))
      exact bodyPost_ret (v := frTwo (F, 0)) (results_fr2 rfl _ _ (w.heap.size + 1) F 0 (unhide HOK) rfl rfl ((unhide R2).row _)) rfl ⟨by rw [unhide HR], below_setRow' (unhide HB7) (by omega) _⟩
  · have hs' : shapeD f = false := by simpa using hs
    have HR : Hid (pushD f t = (frZ, 32)) := hide (by unfold pushD; rw [if_pos hs'])
    rw [hs']
    clear hs hs'
    go_wp2_with (refine wpList_store_row rfl 27 _ _ rfl (w.heap.size + 1) (frA frZ) rfl rfl 27 (frA frZ) (unhide K2) (sizeFr frZ_ok) rfl (frA_one _) ?_)
    exact bodyPost_ret (v := frTwo (frZ, 32)) (results_fr2 rfl _ _ (w.heap.size + 1) frZ 32 frZ_ok rfl rfl ((unhide K2).row _)) rfl ⟨by rw [unhide HR], below_setRow' (unhide HB1) (by omega) _⟩
end Go.Proofs.Ytihkodfcgfnjoaa
