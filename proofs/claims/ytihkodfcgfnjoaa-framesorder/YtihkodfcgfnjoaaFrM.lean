/-
  The contract of frames.Merge: what the plain function 'mergeF' says; nothing old is turned. Conditions: the table lies there.
-/
import Derived.Test.YtihkodfcgfnjoaaFrL
import Derived.Test.YtihkodfcgfnjoaaFrE
import Derived.Test.YtihkodfcgfnjoaaMerge
namespace Go.Proofs.Ytihkodfcgfnjoaa
open Go.RowKit

def mergeTo (T : List Cl) (l m : List Nat) : Nat → List Nat
  | 0 => l
  | k + 1 => (mergeTo T l m k).set k (mergeD T (l.getD k 0) (m.getD k 0))
theorem mergeTo_length (T : List Cl) (l m : List Nat) : ∀ k, (mergeTo T l m k).length = l.length
  | 0 => rfl
  | k + 1 => by unfold mergeTo; rw [List.length_set, mergeTo_length T l m k]
theorem mergeTo_byte {T : List Cl} {l m : List Nat} (hl : ∀ t ∈ l, t < 256) (hm : ∀ t ∈ m, t < 256) : ∀ k, ∀ t ∈ mergeTo T l m k, t < 256
  | 0, t, ht => hl t ht
  | k + 1, t, ht => by
    unfold mergeTo at ht
    have g : ∀ (l : List Nat), (∀ t ∈ l, t < 256) → l.getD k 0 < 256 := fun l hl => by
      rw [List.getD_eq_getElem?_getD]
      cases h : l[k]? with
      | none => simp
      | some x => exact hl x (List.mem_of_getElem? h)
    rcases List.mem_or_eq_of_mem_set ht with h | h
    · exact mergeTo_byte hl hm k t h
    · rw [h]; exact merge_lt (g l hl) (g m hm)
theorem mergeTo_ok {T : List Cl} {a b : Fr} (ha : FrOk a) (hb : FrOk b) (k : Nat) : FrOk ⟨a.lo, a.he, mergeTo T a.sl b.sl k⟩ :=
  ⟨by rw [mergeTo_length]; exact ha.len, mergeTo_byte ha.byte hb.byte k, ha.lo, ha.he⟩
theorem mergeTo_same (T : List Cl) (l m : List Nat) : ∀ k i, k ≤ i → (mergeTo T l m k)[i]? = l[i]?
  | 0, _, _ => rfl
  | k + 1, i, h => by
    unfold mergeTo
    rw [List.getElem?_set_ne (by omega), mergeTo_same T l m k i (by omega)]
theorem mergeTo_get (T : List Cl) (l m : List Nat) : ∀ k i, i < k → i < l.length → (mergeTo T l m k)[i]? = some (mergeD T (l.getD i 0) (m.getD i 0))
  | 0, _, h, _ => by omega
  | k + 1, i, h, hl => by
    unfold mergeTo
    by_cases e : i = k
    · subst e
      rw [List.getElem?_set_self (by rw [mergeTo_length]; exact hl)]
    · rw [List.getElem?_set_ne (by omega), mergeTo_get T l m k i (by omega) hl]
def mergeF (T : List Cl) (a b : Fr) : Fr × Int :=
  if chkF T.length a ≠ 0 then (frZ, chkF T.length a) else if chkF T.length b ≠ 0 then (frZ, chkF T.length b)
  else if a.lo ≠ b.lo ∨ a.he ≠ b.he then (frZ, 32) else (⟨a.lo, a.he, mergeTo T a.sl b.sl (nF a)⟩, 0)
theorem check_good {n : Nat} {f : Fr} (h : chkF n f = 0) : shapeD f = true ∧ frEq f (trimD f) = true ∧ (f.sl.take (nF f)).all (validD n) = true := by
  unfold chkF at h
  by_cases h1 : shapeD f = false
  · rw [if_pos h1] at h; cases h
  · rw [if_neg h1] at h
    by_cases h2 : frEq f (trimD f) = false
    · rw [if_pos h2] at h; cases h
    · rw [if_neg h2] at h
      by_cases h3 : (f.sl.take (nF f)).all (validD n) = true
      · exact ⟨by simpa using h1, by simpa using h2, h3⟩
      · rw [if_neg h3] at h; cases h
theorem merge_ok {T : List Cl} {a b : Fr} (ha : FrOk a) (hb : FrOk b) : FrOk (mergeF T a b).1 := by
  unfold mergeF
  by_cases h1 : chkF T.length a ≠ 0
  · rw [if_pos h1]; exact frZ_ok
  · rw [if_neg h1]
    by_cases h2 : chkF T.length b ≠ 0
    · rw [if_pos h2]; exact frZ_ok
    · rw [if_neg h2]
      by_cases h3 : a.lo ≠ b.lo ∨ a.he ≠ b.he
      · rw [if_pos h3]; exact frZ_ok
      · rw [if_neg h3]; exact mergeTo_ok ha hb _

set_option maxHeartbeats 4000000 in
theorem MergeF_any (ao : Option Addr) (cap : Nat) (T : List Cl) (a b : Fr) (w : World) (hT : TabAt w ao T) (ha : FrOk a) (hb : FrOk b) :
    Calls Try.prog 19 #[.slice ao T.length cap, .agg (frA a), .agg (frA b)] w fun e w' => e = .returned (frTwo (mergeF T a b)) ∧ Below w.heap.size w w' := by
  have HA := hide ha
  have HB := hide hb
  have hal1 : Below w.heap.size w (w.alloc (.cells (frA a) 27)) := (Below.refl _ _).alloc (Nat.le_refl _) _
  have fa1 := FAt.new w a
  have fb1 : FAt ((w.alloc (.cells (frA a) 27)).alloc (.cells (frA b) 27)) (w.heap.size + 1) b := by
    have := FAt.new (w.alloc (.cells (frA a) 27)) b
    rw [World.size_alloc] at this
    exact this
  have fa2 : FAt ((w.alloc (.cells (frA a) 27)).alloc (.cells (frA b) 27)) w.heap.size a := fa1.below ((Below.refl _ _).alloc (Nat.le_refl _) _) (by simp)
  have hal2 : Below w.heap.size w ((w.alloc (.cells (frA a) 27)).alloc (.cells (frA b) 27)) := hal1.alloc (by simp) _
  have fz3 : FAt (((w.alloc (.cells (frA a) 27)).alloc (.cells (frA b) 27)).alloc (.cells (frA frZ) 27)) (w.heap.size + 2) frZ := by
    have := FAt.new ((w.alloc (.cells (frA a) 27)).alloc (.cells (frA b) 27)) frZ
    rw [World.size_alloc, World.size_alloc] at this
    exact this
  have F1 : Hid (FAt (((w.alloc (.cells (frA a) 27)).alloc (.cells (frA b) 27)).alloc (.cells (frA frZ) 27)) w.heap.size a) := hide (fa2.below ((Below.refl _ _).alloc (Nat.le_refl _) _) (by simp; omega))
  have F2 : Hid (FAt (((w.alloc (.cells (frA a) 27)).alloc (.cells (frA b) 27)).alloc (.cells (frA frZ) 27)) (w.heap.size + 1) b) := hide (fb1.below ((Below.refl _ _).alloc (Nat.le_refl _) _) (by simp))
  have F3 := hide fz3
  have hal3 : Below w.heap.size w (((w.alloc (.cells (frA a) 27)).alloc (.cells (frA b) 27)).alloc (.cells (frA frZ) 27)) := hal2.alloc (by simp; omega) _
  have HT := hide hT
  have HB0 := hide hal3
  have hbz := run_buildZ
  clear hT hal1 hal2 hal3 fa1 fa2 fb1 fz3
  clear ha hb
  go_enter Try.func19, Try.ntmps19
  go_wp2_with (refine wpList_load_row rfl 27 _ rfl w.heap.size rfl 27 (frA a) (0, 0) _ (unhide F1) Try.underlying27 rfl (sizeFr (unhide HA)) ?_)
  rw [frZ_eq]
  generalize (((w.alloc (.cells (frA a) 27)).alloc (.cells (frA b) 27)).alloc (.cells (frA frZ) 27)) = W at F1 F2 F3 HB0 ⊢
  refine (CheckF_any ao cap T.length a _ (unhide HA)).mono ?_
  rintro e W21 ⟨rfl, hB22⟩
  have F23 := hide ((unhide F1).below hB22 (unhide F1).lt)
  have F24 := hide ((unhide F2).below hB22 (unhide F2).lt)
  have F25 := hide ((unhide F3).below hB22 (unhide F3).lt)
  have HB26 := hide ((unhide HB0).trans (hB22.mono (unhide HB0).size))
  clear hB22 F1 F2 F3 HB0 W
  by_cases ea : chkF T.length a = 0
  rotate_left
  · have HR : Hid (mergeF T a b = (frZ, chkF T.length a)) := hide (by unfold mergeF; rw [if_pos ea])
    generalize chkF T.length a = er at ea HR ⊢
    have b1 := bne_t ea
    clear ea
    go_wp2_with (refine wpList_store_row rfl 27 _ _ rfl (w.heap.size + 2) (frA frZ) rfl rfl 27 (frA frZ) (unhide F25) (sizeFr frZ_ok) (sizeEq frZ_ok frZ_ok) (frA_one _) ?_)
    exact bodyPost_ret (v := frTwo (frZ, er)) (results_fr2 rfl _ _ (w.heap.size + 2) frZ er frZ_ok rfl rfl ((unhide F25).row _)) rfl ⟨by rw [unhide HR], below_setRow' (unhide HB26) (by omega) _⟩
  have EA := hide ea
  rw [ea]
  clear ea
  go_wp2_with (refine wpList_load_row rfl 27 _ rfl (w.heap.size + 1) rfl 27 (frA b) (0, 0) _ (unhide F24) Try.underlying27 rfl (sizeFr (unhide HB)) ?_)
  refine (CheckF_any ao cap T.length b _ (unhide HB)).mono ?_
  rintro e W27 ⟨rfl, hB28⟩
  have F29 := hide ((unhide F23).below hB28 (unhide F23).lt)
  have F30 := hide ((unhide F24).below hB28 (unhide F24).lt)
  have F31 := hide ((unhide F25).below hB28 (unhide F25).lt)
  have HB32 := hide ((unhide HB26).trans (hB28.mono (unhide HB26).size))
  clear hB28 F23 F24 F25 HB26 W21
  by_cases eb : chkF T.length b = 0
  rotate_left
  · have HR : Hid (mergeF T a b = (frZ, chkF T.length b)) := hide (by unfold mergeF; rw [if_neg (by rw [unhide EA]; simp), if_pos eb])
    generalize chkF T.length b = er at eb HR ⊢
    have b1 := bne_t eb
    clear eb
    go_wp2_with (refine wpList_store_row rfl 27 _ _ rfl (w.heap.size + 2) (frA frZ) rfl rfl 27 (frA frZ) (unhide F31) (sizeFr frZ_ok) (sizeEq frZ_ok frZ_ok) (frA_one _) ?_)
    exact bodyPost_ret (v := frTwo (frZ, er)) (results_fr2 rfl _ _ (w.heap.size + 2) frZ er frZ_ok rfl rfl ((unhide F31).row _)) rfl ⟨by rw [unhide HR], below_setRow' (unhide HB32) (by omega) _⟩
  have EB := hide eb
  rw [eb]
  clear eb
  have c0a := (unhide F29).lo
  have c1a := (unhide F29).he
  have c0b := (unhide F30).lo
  have c1b := (unhide F30).he
  by_cases sl : a.lo = b.lo
  rotate_left
  · have HR : Hid (mergeF T a b = (frZ, 32)) := hide (by unfold mergeF; rw [if_neg (by rw [unhide EA]; simp), if_neg (by rw [unhide EB]; simp), if_pos (Or.inl sl)])
    have b1 := bne_t sl
    clear sl
    go_wp2_with (refine wpList_store_row rfl 27 _ _ rfl (w.heap.size + 2) (frA frZ) rfl rfl 27 (frA frZ) (unhide F31) (sizeFr frZ_ok) (sizeEq frZ_ok frZ_ok) (frA_one _) ?_)
    exact bodyPost_ret (v := frTwo (frZ, 32)) (results_fr2 rfl _ _ (w.heap.size + 2) frZ 32 frZ_ok rfl rfl ((unhide F31).row _)) rfl ⟨by rw [unhide HR], below_setRow' (unhide HB32) (by omega) _⟩
  by_cases sh : a.he = b.he
  rotate_left
  · have HR : Hid (mergeF T a b = (frZ, 32)) := hide (by unfold mergeF; rw [if_neg (by rw [unhide EA]; simp), if_neg (by rw [unhide EB]; simp), if_pos (Or.inr sh)])
    have b1 := bne_f sl
    have b2 := bne_t sh
    clear sl sh
    go_wp2_with (refine wpList_store_row rfl 27 _ _ rfl (w.heap.size + 2) (frA frZ) rfl rfl 27 (frA frZ) (unhide F31) (sizeFr frZ_ok) (sizeEq frZ_ok frZ_ok) (frA_one _) ?_)
    exact bodyPost_ret (v := frTwo (frZ, 32)) (results_fr2 rfl _ _ (w.heap.size + 2) frZ 32 frZ_ok rfl rfl ((unhide F31).row _)) rfl ⟨by rw [unhide HR], below_setRow' (unhide HB32) (by omega) _⟩
  have HR : Hid (mergeF T a b = (⟨a.lo, a.he, mergeTo T a.sl b.sl (nF a)⟩, 0)) := hide (by unfold mergeF; rw [if_neg (by rw [unhide EA]; simp), if_neg (by rw [unhide EB]; simp), if_neg (by simp [sl, sh])])
  have b1 := bne_f sl
  have b2 := bne_f sh
  clear sl sh
  have HS := hide (check_good (unhide EA)).1
  have o_a_m : w.heap.size < W27.heap.size := (unhide F29).lt
  have o_b_m : (w.heap.size + 1) < W27.heap.size := (unhide F30).lt
  have o_z_m : (w.heap.size + 2) < W27.heap.size := (unhide F31).lt
  have Z33 : Hid (FAt (W27.alloc (.cells (frA frZ) 27)) W27.heap.size frZ) := hide (FAt.new W27 frZ)
  have hal : Below W27.heap.size W27 (W27.alloc (.cells (frA frZ) 27)) := (Below.refl _ _).alloc (Nat.le_refl _) _
  have F34 : Hid (FAt ((W27.alloc (.cells (frA frZ) 27)).setRow W27.heap.size (frA a)) w.heap.size a) := hide (((unhide F29).below hal (unhide F29).lt).rowOther a (Nat.ne_of_lt (unhide F29).lt))
  have F35 : Hid (FAt ((W27.alloc (.cells (frA frZ) 27)).setRow W27.heap.size (frA a)) (w.heap.size + 1) b) := hide (((unhide F30).below hal (unhide F30).lt).rowOther a (Nat.ne_of_lt (unhide F30).lt))
  have F36 : Hid (FAt ((W27.alloc (.cells (frA frZ) 27)).setRow W27.heap.size (frA a)) (w.heap.size + 2) frZ) := hide (((unhide F31).below hal (unhide F31).lt).rowOther a (Nat.ne_of_lt (unhide F31).lt))
  have F37 : Hid (FAt ((W27.alloc (.cells (frA frZ) 27)).setRow W27.heap.size (frA a)) W27.heap.size a) := hide ((unhide Z33).row a)
  have HB38 : Hid (Below w.heap.size w ((W27.alloc (.cells (frA frZ) 27)).setRow W27.heap.size (frA a))) := hide (below_setRow' ((unhide HB32).trans (hal.mono (unhide HB32).size)) (unhide HB32).size _)
  go_wp2_with (first | (refine wpList_load_row rfl 27 _ rfl w.heap.size rfl 27 (frA a) (0, 0) _ (unhide F29) Try.underlying27 rfl (sizeFr (unhide HA)) ?_) | (refine wpList_store_row rfl 27 _ _ rfl W27.heap.size (frA a) rfl rfl 27 (frA frZ) (unhide Z33) (sizeFr (unhide HA)) (sizeEq frZ_ok (unhide HA)) (frA_one _) ?_) | (refine wpList_load_row rfl 27 _ rfl W27.heap.size rfl 27 (frA a) (0, 0) _ (unhide F37) Try.underlying27 rfl (sizeFr (unhide HA)) ?_))
  clear c0a c1a c0b c1b b1 b2
  rw [frZ_eq]
  generalize ((W27.alloc (.cells (frA frZ) 27)).setRow W27.heap.size (frA a)) = W39 at F34 F35 F36 F37 HB38 ⊢
  clear F29 F30 F31 Z33 HB32 hal
  generalize W27.heap.size = g_m at F37 o_a_m o_b_m o_z_m ⊢
  clear W27
  refine (size_any a _ (unhide HS)).mono ?_
  rintro e W40 ⟨rfl, hB41⟩
  have F42 := hide ((unhide F34).below hB41 (unhide F34).lt)
  have F43 := hide ((unhide F35).below hB41 (unhide F35).lt)
  have F44 := hide ((unhide F36).below hB41 (unhide F36).lt)
  have F45 := hide ((unhide F37).below hB41 (unhide F37).lt)
  have HB46 := hide ((unhide HB38).trans (hB41.mono (unhide HB38).size))
  clear hB41 F34 F35 F36 F37 HB38 W39
  obtain ⟨h0, h1, h2, h3⟩ := shapeD_iff.1 (unhide HS)
  obtain ⟨m, hm⟩ : ∃ m : Nat, a.lo + a.he = (m : Int) := ⟨nF a, by unfold nF; omega⟩
  have hm24 : m ≤ 24 := by omega
  have HN : Hid (nF a = m) := hide (by unfold nF; omega)
  rw [hm]
  clear hm h0 h1 h2 h3
  go_wp2
  go_loopw [42] (fun i wr => ∃ k : Nat, k ≤ m ∧ i = .int .i64 (k : Int) ∧ Hid (FAt wr w.heap.size a) ∧ Hid (FAt wr (w.heap.size + 1) b) ∧ Hid (FAt wr (w.heap.size + 2) frZ) ∧ Hid (FAt wr g_m ⟨a.lo, a.he, mergeTo T a.sl b.sl k⟩) ∧ Hid (Below w.heap.size w wr)) (fun i _ => m - (intOf i).toNat)
  case atStart => exact ⟨0, by omega, rfl, F42, F43, F44, F45, HB46⟩
  case round =>
    clear F42 F43 F44 F45 HB46 W40
    obtain ⟨k, hk, rfl, FA, FB, FZ, FM, HW⟩ := hrel
    by_cases hlt : k < m
    · have j1 : ((k : Nat) : Int) < ((m : Nat) : Int) := by omega
      have j2 : ((k : Nat) : Int) < 24 := by omega
      have la : k < a.sl.length := by rw [(unhide HA).len]; omega
      have lb : k < b.sl.length := by rw [(unhide HB).len]; omega
      have lm : k < (mergeTo T a.sl b.sl k).length := by rw [mergeTo_length]; exact la
      have xa := (unhide FA).slot (List.getElem?_eq_getElem la)
      have xb := (unhide FB).slot (List.getElem?_eq_getElem lb)
      have xm := (unhide FM).slot (List.getElem?_eq_getElem lm)
      have a256 := (unhide HA).byte _ (List.getElem_mem la)
      have b256 := (unhide HB).byte _ (List.getElem_mem lb)
      have HM : Hid (mergeTo T a.sl b.sl (k + 1) = (mergeTo T a.sl b.sl k).set k (mergeD T a.sl[k] b.sl[k])) := hide (by
        show (mergeTo T a.sl b.sl k).set k (mergeD T (a.sl.getD k 0) (b.sl.getD k 0)) = _
        rw [List.getD_eq_getElem?_getD, List.getD_eq_getElem?_getD, List.getElem?_eq_getElem la, List.getElem?_eq_getElem lb]
        rfl)
      generalize a.sl[k] = x at xa a256 HM
      generalize b.sl[k] = y at xb b256 HM
      generalize (mergeTo T a.sl b.sl k)[k] = old at xm
      have oa := (unhide FA).lt
      have ob := (unhide FB).lt
      have om := (unhide FM).lt
      clear la lb lm
      go_wp2
      refine wp_region_held_drew (S := fun w' => w'.cell? ⟨w.heap.size, 2 + k, none⟩ = some (.int .u8 (x : Int)) ∧ w'.cell? ⟨w.heap.size + 1, 2 + k, none⟩ = some (.int .u8 (y : Int))) (by kernel_rfl) ⟨xa, xb⟩ (fun hS => ?_)
      refine wpAnyH_take (i := 0) (v := .int .i64 (k : Int)) rfl (by kernel_rfl) (by kernel_rfl) (by kernel_rfl) (fun _ _ _ h => h) (Or.inl ⟨by rfl, fun w _ => by go_simp⟩) hS ?_
      refine wpAnyH_take (i := 1) (v := .slice ao T.length cap) rfl (by kernel_rfl) (by kernel_rfl) (by kernel_rfl) (fun _ _ _ h => h) (Or.inl ⟨by rfl, fun w _ => by go_simp⟩) hS ?_
      refine wpAnyH_take (i := 2) (v := .int .i64 (k : Int)) rfl (by kernel_rfl) (by kernel_rfl) (by kernel_rfl) (fun _ _ _ h => h) (Or.inl ⟨by rfl, fun w _ => by go_simp⟩) hS ?_
      refine wpAnyH_take (i := 3) (v := .pointer (some ⟨w.heap.size, 2, none⟩)) rfl (by kernel_rfl) (by kernel_rfl) (by kernel_rfl) (fun _ _ _ h => h) (Or.inl ⟨by rfl, fun w _ => by go_simp⟩) hS ?_
      refine wpAnyH_take (i := 4) (v := .pointer (some ⟨w.heap.size, 2 + k, none⟩)) rfl (by kernel_rfl) (by kernel_rfl) (by kernel_rfl) (fun _ _ _ h => h) (Or.inl ⟨by rfl, fun w _ => by go_simp⟩) hS ?_
      refine wpAnyH_take (i := 5) (v := .int .u8 (x : Int)) rfl (by kernel_rfl) (by kernel_rfl) (by kernel_rfl) (fun _ _ _ h => h) (Or.inl ⟨by rfl, fun w hS => by obtain ⟨_, _⟩ := hS; go_simp⟩) hS ?_
      refine wpAnyH_take (i := 6) (v := .int .i64 (k : Int)) rfl (by kernel_rfl) (by kernel_rfl) (by kernel_rfl) (fun _ _ _ h => h) (Or.inl ⟨by rfl, fun w _ => by go_simp⟩) hS ?_
      refine wpAnyH_take (i := 7) (v := .pointer (some ⟨w.heap.size + 1, 2, none⟩)) rfl (by kernel_rfl) (by kernel_rfl) (by kernel_rfl) (fun _ _ _ h => h) (Or.inl ⟨by rfl, fun w _ => by go_simp⟩) hS ?_
      refine wpAnyH_take (i := 8) (v := .pointer (some ⟨w.heap.size + 1, 2 + k, none⟩)) rfl (by kernel_rfl) (by kernel_rfl) (by kernel_rfl) (fun _ _ _ h => h) (Or.inl ⟨by rfl, fun w _ => by go_simp⟩) hS ?_
      refine wpAnyH_take (i := 9) (v := .int .u8 (y : Int)) rfl (by kernel_rfl) (by kernel_rfl) (by kernel_rfl) (fun _ _ _ h => h) (Or.inl ⟨by rfl, fun w hS => by obtain ⟨_, _⟩ := hS; go_simp⟩) hS ?_
      refine wpAnyH_take (i := 11) (v := .pointer (some ⟨g_m, 2, none⟩)) rfl (by kernel_rfl) (by kernel_rfl) (by kernel_rfl) (fun _ _ _ h => h) (Or.inl ⟨by rfl, fun w _ => by go_simp⟩) hS ?_
      refine wpAnyH_ready (rs := [10]) (by kernel_rfl) (by simp) ?_
      refine AllReadyH.cons rfl (fun K hK => ?_) AllReadyH.nil
      have TD : Hid (TabAt wr.drew ao T) := hide ((unhide HT).below ((unhide HW).trans ⟨rfl, rfl, rfl, Nat.le_refl _, fun _ _ => rfl⟩))
      go_simp
      go_wp2_with (go_at_call 40; refine (Merge_any ao cap T x y _ (unhide TD) a256 b256).mono ?_; rintro e W2 ⟨rfl, hB2'⟩)
      have hB2 : Below wr.heap.size wr W2 := (show Below wr.heap.size wr wr.drew from ⟨rfl, rfl, rfl, Nat.le_refl _, fun _ _ => rfl⟩).trans hB2'
      clear hB2'
      have FA2 := hide ((unhide FA).below hB2 oa)
      have FB2 := hide ((unhide FB).below hB2 ob)
      have FZ2 := hide ((unhide FZ).below hB2 (unhide FZ).lt)
      have FM2 := hide ((unhide FM).below hB2 om)
      have HW2 := hide ((unhide HW).trans (hB2.mono (unhide HW).size))
      have xm2 : W2.cell? ⟨g_m, 2 + k, none⟩ = some (.int .u8 (old : Int)) := (hB2.cell (p := ⟨g_m, 2 + k, none⟩) om).trans xm
      have zm2 := (unhide FM2).frozen (2 + k)
      have xa2 : W2.cell? ⟨w.heap.size, 2 + k, none⟩ = some (.int .u8 (x : Int)) := (hB2.cell (p := ⟨w.heap.size, 2 + k, none⟩) oa).trans xa
      have xb2 : W2.cell? ⟨w.heap.size + 1, 2 + k, none⟩ = some (.int .u8 (y : Int)) := (hB2.cell (p := ⟨w.heap.size + 1, 2 + k, none⟩) ob).trans xb
      have R1 := hide ((unhide FA2).cellOther ⟨g_m, 2 + k, none⟩ (.int .u8 ((mergeD T x y : Nat) : Int)) (by simp; omega))
      have R2 := hide ((unhide FB2).cellOther ⟨g_m, 2 + k, none⟩ (.int .u8 ((mergeD T x y : Nat) : Int)) (by simp; omega))
      have R3 := hide ((unhide FZ2).cellOther ⟨g_m, 2 + k, none⟩ (.int .u8 ((mergeD T x y : Nat) : Int)) (by simp; omega))
      have R4 : Hid (FAt (W2.setCell ⟨g_m, 2 + k, none⟩ (.int .u8 ((mergeD T x y : Nat) : Int))) g_m ⟨a.lo, a.he, mergeTo T a.sl b.sl (k + 1)⟩) := hide (by rw [unhide HM]; exact (unhide FM2).set k (mergeD T x y))
      have HW3 := hide ((unhide HW2).setCell (p := ⟨g_m, 2 + k, none⟩) (by simp; omega) (.int .u8 ((mergeD T x y : Nat) : Int)))
      have xa3 : (W2.setCell ⟨g_m, 2 + k, none⟩ (.int .u8 ((mergeD T x y : Nat) : Int))).cell? ⟨w.heap.size, 2 + k, none⟩ = some (.int .u8 (x : Int)) := by rw [World.cell?_setCell_other _ _ _ _ (by intro h; injection h with h; omega)]; exact xa2
      have xb3 : (W2.setCell ⟨g_m, 2 + k, none⟩ (.int .u8 ((mergeD T x y : Nat) : Int))).cell? ⟨w.heap.size + 1, 2 + k, none⟩ = some (.int .u8 (y : Int)) := by rw [World.cell?_setCell_other _ _ _ _ (by intro h; injection h with h; omega)]; exact xb2
      refine hK.out _ _ ⟨xa2, xb2⟩ (fun hS2 => ?_)
      clear hK K
      refine wpAnyH_take (i := 12) (v := .pointer (some ⟨g_m, 2 + k, none⟩)) rfl (by kernel_rfl) (by kernel_rfl) (by kernel_rfl) (fun _ _ _ h => h) (Or.inl ⟨by rfl, fun w _ => by go_simp⟩) hS2 ?_
      refine wpAnyH_ready (rs := [13]) (by kernel_rfl) (by simp) ?_
      refine AllReadyH.cons rfl (fun K hK => ?_) AllReadyH.nil
      go_simp
      refine hK.out _ _ ⟨xa3, xb3⟩ (fun hS3 => ?_)
      clear hK K
      refine wpAnyH_done (by kernel_rfl) ?_ _
      clear hS hS2 hS3 xa3 xb3 xa2 xb2 xm2 zm2 xa xb xm FA FB FZ FM HW FA2 FB2 FZ2 FM2 HW2 TD hB2 oa ob om HM
      go_wp2
      go_roundw
      case rel => exact ⟨k + 1, by omega, by go_num, R1, R2, R3, R4, HW3⟩
      case measure => simp [intOf]; omega
    · have j1 : ¬ ((k : Nat) : Int) < ((m : Nat) : Int) := by omega
      have HE : Hid (({ lo := a.lo, he := a.he, sl := mergeTo T a.sl b.sl k } : Fr) = ⟨a.lo, a.he, mergeTo T a.sl b.sl (nF a)⟩) := hide (by rw [unhide HN, show k = m from by omega])
      rw [unhide HE] at FM
      have HO := hide (mergeTo_ok (T := T) (unhide HA) (unhide HB) (nF a))
      generalize (Fr.mk a.lo a.he (mergeTo T a.sl b.sl (nF a))) = F at FM HO HR HE
      go_wp2_with (first | (refine wpList_load_row rfl 27 _ rfl g_m rfl 27 (frA F) (0, 0) _ (unhide FM) Try.underlying27 rfl (sizeFr (unhide HO)) ?_) | (refine wpList_store_row rfl 27 _ _ rfl (w.heap.size + 2) (frA F) rfl rfl 27 (frA frZ) (unhide FZ) (sizeFr (unhide HO)) (sizeEq frZ_ok (unhide HO)) (frA_one _) ?_))
      exact bodyPost_ret (v := frTwo (F, 0)) (results_fr2 rfl _ _ (w.heap.size + 2) F 0 (unhide HO) rfl rfl ((unhide FZ).row _)) rfl ⟨by rw [unhide HR], below_setRow' (unhide HW) (by omega) _⟩
end Go.Proofs.Ytihkodfcgfnjoaa
