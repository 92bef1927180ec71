/-
  The contract of the reader's Next, in one word: what a step tells, and where the reader then stands. Conditions: the reader is one that Open made, its bytes lie there.
-/
import Derived.Test.YthejnhdabokhjabCr7
import Derived.Maps.AppendAt
namespace Go.Proofs.Ythejnhdabokhjab
open Go.RowKit

/-- A step of a reader. -/
def Stp (L : List UInt8) (lo : Nat) (k : Int) (p : Nat) (told ahead : Int) (y : En) (b : Bool) (er : Int) (q : Nat) (t a : Int) : Prop :=
  (told = k ∧ y = enZ ∧ b = false ∧ q = p ∧ t = told ∧ a = ahead ∧ er = (if p < L.length then 3 else 0)) ∨
  (told ≠ k ∧ (oneE L lo p ahead).2 ≠ 0 ∧ y = enZ ∧ b = false ∧ q = p ∧ t = told ∧ a = ahead ∧ er = (oneE L lo p ahead).2) ∨
  (told ≠ k ∧ (oneE L lo p ahead).2 = 0 ∧ y = oneX L lo p ∧ b = true ∧ q = oneN L lo p ∧ t = told + 1 ∧ a = (oneX L lo p).at_ ∧ er = 0 ∧ oneN L lo p ≤ L.length)
theorem EAt.grown {W W' : World} {g k : Nat} {x : En} (h : EAt W g x) (hb : W.grownBy W' (some k)) (hne : g ≠ k) : EAt W' g x := (hb.block g h.lt (by intro e; injection e with e; exact hne e)).trans h

set_option maxRecDepth 20000 in
set_option maxHeartbeats 4000000 in
theorem Next_any {gr : Nat} {ao : Option Addr} {c : Nat} {L : List UInt8} {lo : Nat} {k told ahead : Int} (p : Nat) (w : World) (hR : RAt w gr (.slice ao L.length c) lo k (p : Int) told ahead) (hb : BAt w ao L) (hl : L.length ≤ 140737488355328) (hlo : lo ≤ 16) (hp : p ≤ L.length) (h0 : 0 < L.length) (ht : 0 ≤ told ∧ told ≤ 65536) :
    Calls Try.prog 12 #[.pointer (some ⟨gr, 0, none⟩)] w fun e w' => w.grownBy w' (some gr) ∧ ∃ (y : En) (b : Bool) (er : Int) (q : Nat) (t a : Int), FrOk y.fr ∧ e = .returned (.tuple #[.agg (enA y), .bool b, .int .i64 er]) ∧ RAt w' gr (.slice ao L.length c) lo k (q : Int) t a ∧ Stp L lo k p told ahead y b er q t a := by
  have hal := ((Below.refl w.heap.size w).alloc (Nat.le_refl _) (.cells (enA enZ) 45))
  have HE2 := hide (EAt.new w enZ)
  have HR0 := hide (hR.below hal)
  have HG0 := hide (grown_of hal (some gr))
  have hrl : gr < w.heap.size := hR.lt
  have HNX := hide (next_any p _ (hR.below hal) (hb.below' hal) hl hlo hp ht)
  have hsz : Hid (w.heap.size < (w.alloc (.cells (enA enZ) 45)).heap.size) := hide (by simp)
  clear hal hR hb
  go_enter Try.func12, Try.ntmps12
  go_wp2_with fail
  rw [enZ_eq]
  generalize (w.alloc (.cells (enA enZ) 45)) = W0 at HE2 HR0 HG0 HNX hsz ⊢
  refine (isMade_any W0 (unhide HR0) h0).mono ?_
  rintro e W0' ⟨rfl, hq⟩
  rw [hq]
  clear hq W0'
  go_wp2_with fail
  refine (unhide HNX).mono ?_
  rintro e W2 ⟨hG2, hres⟩
  have HE2 := hide ((unhide HE2).grown hG2 (show w.heap.size ≠ gr by omega))
  have HG := hide ((unhide HG0).trans hG2)
  have o2 : w.heap.size < W2.heap.size := (unhide HE2).lt
  clear hG2 HNX HR0 HG0
  obtain ⟨y, b, x, er, q, t, a, hy, rfl, hR2, hst⟩ : ∃ (y : En) (b : Bool) (x er : Int) (q : Nat) (t a : Int), FrOk y.fr ∧ e = .returned (.tuple #[.agg (enA y), .bool b, ftV x er]) ∧ RAt W2 gr (.slice ao L.length c) lo k (q : Int) t a ∧ Stp L lo k p told ahead y b er q t a := by
    rcases hres with ⟨h1, h2, ⟨h3, rfl⟩ | ⟨h3, rfl⟩⟩ | ⟨h1, h2, h3, rfl⟩ | ⟨h1, h2, h3, h4, h5, rfl⟩
    · exact ⟨enZ, false, _, 3, p, told, ahead, enZ_ok, rfl, h2, Or.inl ⟨h1, rfl, rfl, rfl, rfl, rfl, by rw [if_pos h3]⟩⟩
    · exact ⟨enZ, false, _, 0, p, told, ahead, enZ_ok, rfl, h2, Or.inl ⟨h1, rfl, rfl, rfl, rfl, rfl, by rw [if_neg (by omega)]⟩⟩
    · exact ⟨enZ, false, _, _, p, told, ahead, enZ_ok, rfl, h3, Or.inr (Or.inl ⟨h1, h2, rfl, rfl, rfl, rfl, rfl, rfl⟩)⟩
    · exact ⟨_, true, _, 0, _, _, _, h3, rfl, h5, Or.inr (Or.inr ⟨h1, h2, rfl, rfl, rfl, rfl, rfl, rfl, h4⟩)⟩
  clear hres
  have HST := hide hst
  have HR := hide hR2
  clear hst hR2
  have al1 : Below W2.heap.size W2 (W2.alloc (.cells (enA enZ) 45)) := (Below.refl _ _).alloc (Nat.le_refl _) _
  have al2 : Below W2.heap.size W2 ((W2.alloc (.cells (enA enZ) 45)).alloc (.cells #[.int .i64 0, .int .i64 0] 57)) := al1.alloc (by simp) _
  have HE5 : Hid (EAt ((W2.alloc (.cells (enA enZ) 45)).alloc (.cells #[.int .i64 0, .int .i64 0] 57)) W2.heap.size enZ) := hide ((EAt.new W2 enZ).below ((Below.refl _ _).alloc (Nat.le_refl _) _) (by simp))
  have HF7 : Hid (FtAt ((W2.alloc (.cells (enA enZ) 45)).alloc (.cells #[.int .i64 0, .int .i64 0] 57)) (W2.heap.size + 1) 0 0) := hide (by
    have := heap_alloc_new (W2.alloc (.cells (enA enZ) 45)) (.cells #[.int .i64 0, .int .i64 0] 57)
    rw [World.size_alloc] at this
    exact this)
  have HE2 := hide ((unhide HE2).below al2 (unhide HE2).lt)
  have HR := hide ((unhide HR).below al2)
  have HG := hide ((unhide HG).trans (grown_of al2 (some gr)))
  clear al1 al2
  have E5b := hide ((unhide HE5).row y)
  have F7b : Hid (FtAt (((W2.alloc (.cells (enA enZ) 45)).alloc (.cells #[.int .i64 0, .int .i64 0] 57)).setRow W2.heap.size (enA y)) (W2.heap.size + 1) 0 0) := hide ((setRow_other _ W2.heap.size (W2.heap.size + 1) _ (by omega)).trans (unhide HF7))
  have E2b := hide ((unhide HE2).rowOther (enA y) (show w.heap.size ≠ W2.heap.size by omega))
  have Rb := hide ((unhide HR).rowOther (enA y) (show gr ≠ W2.heap.size by omega))
  have Gb := hide (grown_row (unhide HG) (show w.heap.size ≤ W2.heap.size by omega) (enA y))
  have E5c := hide ((unhide E5b).rowOther #[.int .i64 x, .int .i64 er] (show W2.heap.size ≠ W2.heap.size + 1 by omega))
  have F7c : Hid (FtAt ((((W2.alloc (.cells (enA enZ) 45)).alloc (.cells #[.int .i64 0, .int .i64 0] 57)).setRow W2.heap.size (enA y)).setRow (W2.heap.size + 1) #[.int .i64 x, .int .i64 er]) (W2.heap.size + 1) x er) := hide (setRow_heap _ _ _ _ _ _ (unhide F7b))
  have E2c := hide ((unhide E2b).rowOther #[.int .i64 x, .int .i64 er] (show w.heap.size ≠ W2.heap.size + 1 by omega))
  have Rc := hide ((unhide Rb).rowOther #[.int .i64 x, .int .i64 er] (show gr ≠ W2.heap.size + 1 by omega))
  have Gc := hide (grown_row (unhide Gb) (show w.heap.size ≤ W2.heap.size + 1 by omega) #[.int .i64 x, .int .i64 er])
  unfold ftV
  go_upto_region 4 with (first | (refine wpList_store_row rfl 45 (.tmp 5) (.tmp 15) rfl W2.heap.size (enA y) rfl rfl 45 (enA enZ) (unhide HE5) (sizeEn hy) (sizeEqEn enZ_ok hy) (enA_one _) ?_) | (refine wpList_store_row rfl 57 (.tmp 7) (.tmp 17) rfl (W2.heap.size + 1) #[.int .i64 x, .int .i64 er] rfl rfl 57 #[.int .i64 0, .int .i64 0] (unhide F7b) (by kernel_rfl) rfl (by simp [Value.oneCell']) ?_))
  rw [enZ_eq]
  clear HE5 HF7 HE2 HR HG E5b F7b E2b Rb Gb
  have HE5 : Hid (EAt ((((W2.alloc (.cells (enA enZ) 45)).alloc (.cells #[.int .i64 0, .int .i64 0] 57)).setRow W2.heap.size (enA y)).setRow (W2.heap.size + 1) #[.int .i64 x, .int .i64 er]).drew W2.heap.size y) := hide (unhide E5c)
  have HF7 : Hid (FtAt ((((W2.alloc (.cells (enA enZ) 45)).alloc (.cells #[.int .i64 0, .int .i64 0] 57)).setRow W2.heap.size (enA y)).setRow (W2.heap.size + 1) #[.int .i64 x, .int .i64 er]).drew (W2.heap.size + 1) x er) := hide (unhide F7c)
  have HE2 : Hid (EAt ((((W2.alloc (.cells (enA enZ) 45)).alloc (.cells #[.int .i64 0, .int .i64 0] 57)).setRow W2.heap.size (enA y)).setRow (W2.heap.size + 1) #[.int .i64 x, .int .i64 er]).drew w.heap.size enZ) := hide (unhide E2c)
  have HR : Hid (RAt ((((W2.alloc (.cells (enA enZ) 45)).alloc (.cells #[.int .i64 0, .int .i64 0] 57)).setRow W2.heap.size (enA y)).setRow (W2.heap.size + 1) #[.int .i64 x, .int .i64 er]).drew gr (.slice ao L.length c) lo k (q : Int) t a) := hide (unhide Rc)
  have HG : Hid (w.grownBy ((((W2.alloc (.cells (enA enZ) 45)).alloc (.cells #[.int .i64 0, .int .i64 0] 57)).setRow W2.heap.size (enA y)).setRow (W2.heap.size + 1) #[.int .i64 x, .int .i64 er]).drew (some gr)) := hide ⟨(unhide Gc).os, (unhide Gc).tape, (unhide Gc).output, (unhide Gc).size, (unhide Gc).block⟩
  clear E5c F7c E2c Rc Gc
  refine wp_region_held_drew (S := fun w' => EAt w' W2.heap.size y ∧ FtAt w' (W2.heap.size + 1) x er) (by kernel_rfl) ⟨unhide HE5, unhide HF7⟩ (fun hS => ?_)
  generalize ((((W2.alloc (.cells (enA enZ) 45)).alloc (.cells #[.int .i64 0, .int .i64 0] 57)).setRow W2.heap.size (enA y)).setRow (W2.heap.size + 1) #[.int .i64 x, .int .i64 er]).drew = W3 at HE5 HF7 HE2 HR HG hS ⊢
  generalize hg7 : W2.heap.size + 1 = g7 at HF7 hS ⊢
  generalize hg5 : W2.heap.size = g5 at HE5 o2 hg7 hS ⊢
  refine wpAnyH_take (i := 0) (v := .agg (enA y)) rfl (by kernel_rfl) (by kernel_rfl) (by kernel_rfl) (fun _ _ _ h => h) (yieldsIf_load_en (by rfl) _ rfl g5 rfl y hy (fun _ h => h.1)) hS ?_
  refine wpAnyH_take (i := 1) (v := .bool b) rfl (by kernel_rfl) (by kernel_rfl) (by kernel_rfl) (fun _ _ _ h => h) (Or.inl ⟨by rfl, fun w _ => by go_simp⟩) hS ?_
  refine wpAnyH_take (i := 2) (v := .pointer (some ⟨g7, 1, none⟩)) rfl (by kernel_rfl) (by kernel_rfl) (by kernel_rfl) (fun _ _ _ h => h) (Or.inl ⟨by rfl, fun w _ => by go_simp⟩) hS ?_
  refine wpAnyH_take (i := 3) (v := .int .i64 er) rfl (by kernel_rfl) (by kernel_rfl) (by kernel_rfl) (fun _ _ _ h => h) (Or.inl ⟨by rfl, fun w hS => by have h0 := FtAt.c1 hS.2; go_simp⟩) hS ?_
  go_simp
  refine wpAnyH_ready (rs := [4]) (by kernel_rfl) (by simp) ?_
  refine AllReadyH.cons rfl (fun K hK => ?_) AllReadyH.nil
  rw [if_pos (by rfl)]
  refine wp_store_row 45 _ _ rfl w.heap.size (enA y) rfl rfl 45 (enA enZ) (unhide HE2) (sizeEn hy) (sizeEqEn enZ_ok hy) (enA_one _) ?_
  have hSx : EAt (W3.setRow w.heap.size (enA y)) g5 y ∧ FtAt (W3.setRow w.heap.size (enA y)) g7 x er := ⟨(setRow_other W3 w.heap.size g5 _ (by omega)).trans hS.1, (setRow_other W3 w.heap.size g7 _ (by omega)).trans hS.2⟩
  have E2x := hide ((unhide HE2).row y)
  have Rx := hide ((unhide HR).rowOther (enA y) (show gr ≠ w.heap.size by omega))
  have Gx := hide (grown_row (unhide HG) (Nat.le_refl _) (enA y))
  refine hK.out _ _ hSx (fun hSb => ?_)
  clear hK K hS hSb
  generalize (W3.setRow w.heap.size (enA y)) = W4 at E2x Rx Gx hSx ⊢
  refine wpAnyH_take (i := 5) (v := .bool b) rfl (by kernel_rfl) (by kernel_rfl) (by kernel_rfl) (fun _ _ _ h => h) (Or.inl ⟨by rfl, fun w _ => by go_simp⟩) hSx ?_
  refine wpAnyH_take (i := 6) (v := .int .i64 er) rfl (by kernel_rfl) (by kernel_rfl) (by kernel_rfl) (fun _ _ _ h => h) (Or.inl ⟨by rfl, fun w _ => by go_simp⟩) hSx ?_
  refine wpAnyH_done (by kernel_rfl) ?_ _
  go_wp2
  exact bodyPost_ret (v := .tuple #[.agg (enA y), .bool b, .int .i64 er]) (results_en3 rfl _ _ w.heap.size y b er hy rfl rfl rfl (unhide E2x)) rfl ⟨unhide Gx, y, b, er, q, t, a, hy, rfl, unhide Rx, unhide HST⟩
end Go.Proofs.Ythejnhdabokhjab
