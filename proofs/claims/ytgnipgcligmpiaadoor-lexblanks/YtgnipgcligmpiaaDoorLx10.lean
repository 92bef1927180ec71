/-
  provisoref10.Scan: what scD tells, in new memory.
-/
import Derived.Test.YtgnipgcligmpiaaDoorLx8
import Derived.Test.YtgnipgcligmpiaaDoorLx9
namespace Go.Proofs.YtgnipgcligmpiaaDoor
open Go.RowKit
set_option maxRecDepth 20000

theorem blF_le {s : ByteArray} : ∀ (f i : Nat), i ≤ s.size → blF s f i ≤ s.size
  | 0, i, h => h
  | f + 1, i, h => by
    unfold blF
    split
    · split
      · exact blF_le f _ (by omega)
      · split
        · exact blF_le f _ (enD_end (p := rmC) (s := s) (i := i) h).le
        · exact h
    · exact h
theorem blD_le {s : ByteArray} {i : Nat} (h : i ≤ s.size) : blD s i ≤ s.size := blF_le _ _ h
theorem OwnT.nil (w : World) (base : Nat) : OwnT w base (.slice none 0 0) [] := World.ownsRow_nil _ _ _ _
theorem cell_new_tk (w : World) (x : Tk) : ∀ (j : Nat) u, (tcells x)[j]? = some u → (w.alloc (.cells #[.int .i64 x.k, .int .i64 x.a, .int .i64 x.e, .int .i64 x.n, .string x.t] 34)).cell? ((⟨w.heap.size, 0, none⟩ : Addr).add j) = some u := by
  intro j u hj
  rw [Addr.add_lit]
  have hn := heap_alloc_new w (.cells #[.int .i64 x.k, .int .i64 x.a, .int .i64 x.e, .int .i64 x.n, .string x.t] 34)
  rw [cell_of_row _ _ _ _ _ _ hn]
  simpa [tcells] using hj

set_option maxRecDepth 20000 in
set_option maxHeartbeats 4000000 in
theorem refScanT_any (s : ByteArray) (w : World) (hs : s.size ≤ 140737488351232) :
    Calls Tryd.prog 9 #[.string s] w fun e w' => ∃ v, e = .returned (.tuple #[v, .int .i64 ((scD s).2.1 : Int), .int .i64 (scD s).2.2]) ∧ OwnT w' w.heap.size v (scD s).1 ∧ Below w.heap.size w w' := by
  obtain ⟨i0, hi, hz0, hz1, hz2⟩ := info_parts infoTk
  go_enter Tryd.func9, Tryd.ntmps9
  by_cases hlong : 65536 < s.size
  · have i1 : ((s.size : Nat) : Int) > 65536 := by omega
    have HR : Hid (scD s = ([], 0, 4)) := hide (if_pos hlong)
    go_wp2
    go_ret3
    rw [unhide HR]
    exact ⟨_, rfl, OwnT.nil _ _, Below.refl _ _⟩
  · have i1 : ¬ ((s.size : Nat) : Int) > 65536 := by omega
    have hsz : s.size ≤ 65536 := by omega
    have HSC : Hid (scD s = scG s 0 []) := hide (if_neg hlong)
    have HB0 := hide (refBlanks_any s 0 w (Nat.zero_le _) hs)
    go_wp2_with (first | (refine (unhide HB0).mono ?_; rintro e w0 ⟨rfl, ew⟩; subst w0))
    go_loopw [5, 6] (fun v i wr => ∃ (p k : Nat) (A : List Tk), k ≤ s.size ∧ Hid (blD s p = k) ∧ i = .int .i64 (k : Int) ∧ Hid (scG s 0 [] = scG s p A) ∧ Hid (OwnT wr w.heap.size v A) ∧ Hid (Below w.heap.size w wr)) (fun _ i _ => s.size - (intOf i).toNat)
    case atStart => exact ⟨0, _, [], blD_le (Nat.zero_le _), hide rfl, rfl, hide rfl, hide (OwnT.nil _ _), hide (Below.refl _ _)⟩
    case round =>
      obtain ⟨p, k, A, hk, HP, rfl, HS, HO, HB⟩ := hrel
      obtain ⟨oa, oc, rfl⟩ := (unhide HO).slice
      by_cases hkl : k < s.size
      · have j1 : ((k : Nat) : Int) < ((s.size : Nat) : Int) := by omega
        by_cases hA : 16384 ≤ A.length
        · have j2 : ((A.length : Nat) : Int) ≥ 16384 := by omega
          have HR : Hid (scD s = ([], k, 4)) := hide (by rw [unhide HSC, unhide HS, scG_long (by rw [unhide HP]; exact hkl) hA, unhide HP])
          go_wp2
          go_ret3
          rw [unhide HR]
          exact ⟨_, rfl, OwnT.nil _ _, unhide HB⟩
        · have j2 : ¬ ((A.length : Nat) : Int) ≥ 16384 := by omega
          have hA2 : A.length < 16384 := by omega
          have HD := hide (refOne_any s k wr hkl hsz)
          go_wp2_with fail
          by_cases he : onE s k = 0
          · obtain ⟨q, hq, hq1, hq2⟩ := on_end hkl he
            have HS2 : Hid (scG s 0 [] = scG s q (A ++ [onT s k])) := hide (by
              rw [unhide HS]
              have := unhide HP
              rw [← this] at hkl he hq ⊢
              exact scG_tok hkl hA he hq)
            rw [he] at HD
            generalize onT s k = x at HD hq HS2
            unfold tkA at HD
            have HE : Hid (x.e = (q : Int)) := hide hq
            clear hq HS he hA
            refine (unhide HD).mono ?_
            rintro e w1 ⟨rfl, hB1⟩
            have HO1 := hide ((unhide HO).below hB1)
            have HB1 := hide ((unhide HB).trans (hB1.mono (unhide HB).size))
            have hal : Below w1.heap.size w1 (w1.alloc (.cells #[.int .i64 x.k, .int .i64 x.a, .int .i64 x.e, .int .i64 x.n, .string x.t] 34)) := (Below.refl _ _).alloc (Nat.le_refl _) _
            have I1 : Hid (TkAt (w1.alloc (.cells #[.int .i64 x.k, .int .i64 x.a, .int .i64 x.e, .int .i64 x.n, .string x.t] 34)) w1.heap.size x) := hide (heap_alloc_new w1 _)
            have HO2 := hide ((unhide HO1).below hal)
            have HB2 := hide ((unhide HB1).trans (hal.mono (unhide HB1).size))
            have HL : Hid (∀ q, (Value.slice oa A.length oc).ownBlock = some q → w.heap.size ≤ q ∧ q < w1.heap.size) := hide (World.ownsRow.lt (unhide HO1))
            have HGI : Hid (w1.heap.size < (w1.alloc (.cells #[.int .i64 x.k, .int .i64 x.a, .int .i64 x.e, .int .i64 x.n, .string x.t] 34)).heap.size) := hide (by simp)
            clear hB1 hal HO1 HB1 HD HO HB
            go_upto_region 12 with fail
            generalize (w1.alloc (.cells #[.int .i64 x.k, .int .i64 x.a, .int .i64 x.e, .int .i64 x.n, .string x.t] 34)) = w2 at I1 HO2 HB2 HGI ⊢
            generalize w1.heap.size = gi at I1 HL HGI ⊢
            have HO3 := hide ((show w2.ownsRow w.heap.size 34 5 (.slice oa A.length oc) A.length (tvals A) from unhide HO2).alloc (.cells #[.int .i64 x.k, .int .i64 x.a, .int .i64 x.e, .int .i64 x.n, .string x.t] 34))
            have hbs := (unhide HB2).size
            go_upto_region 13 with (first | (refine wpList_load_row rfl 34 (.tmp 7) rfl gi rfl 34 #[.int .i64 x.k, .int .i64 x.a, .int .i64 x.e, .int .i64 x.n, .string x.t] (0, 0) _ (unhide I1) Tryd.underlying34 rfl (by kernel_rfl) ?_) | (at_builtin; refine wpList_append_own_at _ rfl _ _ 22 rfl w.heap.size 34 i0 (.agg #[.int .i64 0, .int .i64 0, .int .i64 0, .int .i64 0, .string ⟨#[]⟩]) 5 48 Tryd.underlying22 hi hz0 hz1 hz2 rfl (by decide) _ A.length (tvals A) rfl (unhide HO3) ⟨w2.heap.size, 0, none⟩ 1 1 (tcells x) rfl rfl (cell_new_tk _ _) (tcells_one x) (by unfold maxLen; omega) (by omega) (by simp; omega) ?_))
            intro v3 w3 hO3 hG3 _ _
            have HO4 : Hid (OwnT w3 w.heap.size v3 (A ++ [x])) := hide (by
              unfold OwnT
              rw [tvals_snoc, List.length_append]
              exact hO3)
            have hga : Below w2.heap.size w2 (w2.alloc (.cells #[.int .i64 x.k, .int .i64 x.a, .int .i64 x.e, .int .i64 x.n, .string x.t] 34)) := (Below.refl _ _).alloc (Nat.le_refl _) _
            have I3 : TkAt w3 gi x := (hG3.block gi (by have := unhide HGI; simp; omega) (fun e => by have := (unhide HL gi e.symm).2; omega)).trans ((unhide I1).below hga)
            have HB3 : Hid (Below w.heap.size w w3) := hide (((unhide HB2).alloc (unhide HB2).size _).grown hG3 (by have := (unhide HB2).size; simp; omega) (fun q e => (unhide HL q e).1))
            have hc2 := I3.c2
            rw [unhide HE] at hc2
            have HN := hide (refBlanks_any s q w3 hq2 hs)
            clear hO3 hG3 hga I1 HO3 HO2 HB2 HL HGI hbs I3
            go_wp2_with (first | (refine (unhide HN).mono ?_; rintro e w4 ⟨rfl, rfl⟩))
            refine ⟨⟨q, _, A ++ [x], blD_le hq2, hide rfl, rfl, HS2, HO4, HB3⟩, ?_⟩
            have := blD_ge s q
            show s.size - ((blD s q : Nat) : Int).toNat < s.size - ((k : Nat) : Int).toNat
            omega
          · have HR : Hid (scD s = ([], k, onE s k)) := hide (by
              rw [unhide HSC, unhide HS]
              have := unhide HP
              rw [← this] at hkl he ⊢
              exact scG_err hkl hA he)
            obtain ⟨d, Hd, hd⟩ : ∃ d, Hid (onE s k = d) ∧ d ≠ 0 := ⟨_, hide rfl, he⟩
            rw [unhide Hd] at HD HR
            generalize onT s k = x at HD
            unfold tkA at HD
            clear HS he hA
            refine (unhide HD).mono ?_
            rintro e w1 ⟨rfl, hB1⟩
            have HB1 := hide ((unhide HB).trans (hB1.mono (unhide HB).size))
            clear hB1 HD HO HB
            have hdb : (d != 0) = true := bne_iff_ne.2 hd
            go_wp2_with fail
            go_ret3
            rw [unhide HR]
            exact ⟨_, rfl, OwnT.nil _ _, (unhide HB1).alloc (unhide HB1).size _⟩
      · have HR : Hid (scD s = (A, 0, 0)) := hide (by rw [unhide HSC, unhide HS, scG_end (by rw [unhide HP]; omega)])
        have j1 : ¬ ((k : Nat) : Int) < ((s.size : Nat) : Int) := by omega
        clear HS
        go_wp2
        go_ret3
        rw [unhide HR]
        exact ⟨_, rfl, unhide HO, unhide HB⟩
end Go.Proofs.YtgnipgcligmpiaaDoor
