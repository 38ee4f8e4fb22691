/-
  Layer 6 (tzif): the law TzifKnown.
-/
import Derived.Test.YtohpdpcjhmopbaaTzMj
namespace Go.Proofs.Ytohpdpcjhmopbaa.Tz
open Go.RowKit

theorem sb_low {w : World} {B C n c g off : Nat} {l : List Nat} (h : SB w B (some ⟨g, off, none⟩) n c l) (hg : g < C) : SB w C (some ⟨g, off, none⟩) n c l := by
  obtain ⟨h1, h2, h3, h4⟩ := h
  rcases h4 with ⟨e, _⟩ | ⟨g', o', e, _, hc⟩
  · cases e
  · refine ⟨h1, h2, h3, .inr ⟨g', o', e, ?_, hc⟩⟩
    injection e with e
    injection e with e1 _ _
    omega
/-- The file in memory. -/
def FileAt (X : World) (gb cb : Nat) : Prop := SB X (gb + 1) (some ⟨gb, 0, none⟩) 171 cb fK ∧ gb < X.heap.size ∧ 171 ≤ cb ∧ cb ≤ 9223372036854775807
theorem FileAt.step {X Y : World} {gb cb C : Nat} (h : FileAt X gb cb) (hb : Below C X Y) (hC : gb < C) : FileAt Y gb cb :=
  ⟨h.1.below hb hC, Nat.lt_of_lt_of_le h.2.1 hb.size, h.2.2⟩
set_option maxRecDepth 100000 in
theorem xor_all : ∀ n : Fin 256, bits .xor .u8 (n.val : Int) 1 = ((n.val ^^^ 1 : Nat) : Int) ∧ bits .xor .u8 (n.val : Int) 128 = ((n.val ^^^ 128 : Nat) : Int) ∧ bits .xor .u8 (n.val : Int) 255 = ((n.val ^^^ 255 : Nat) : Int) := by decide
theorem xor_y {n y : Nat} (hn : n < 256) (hy : y = 1 ∨ y = 128 ∨ y = 255) : bits .xor .u8 (n : Int) (y : Int) = ((n ^^^ y : Nat) : Int) := by
  obtain ⟨a, b, c⟩ := xor_all ⟨n, hn⟩
  rcases hy with rfl | rfl | rfl
  · exact a
  · exact b
  · exact c
theorem spoilt_eq {pb : List Int} {k y : Nat} {px : Int} (hf : fK = nats pb) (hB : Byt pb) (hp : pb[k]? = some px) (hy : y = 1 ∨ y = 128 ∨ y = 255) : nats (pb.set k (bits .xor .u8 px (y : Int))) = spoilt k y ∧ Byt (pb.set k (bits .xor .u8 px (y : Int))) := by
  have hx := hB px (List.mem_of_getElem? hp)
  obtain ⟨n, hn⟩ : ∃ n : Nat, px = (n : Int) := ⟨px.toNat, by omega⟩
  subst hn
  have hn : n < 256 := by omega
  have hy2 : y < 256 := by rcases hy with rfl | rfl | rfl <;> decide
  rw [xor_y hn hy]
  have hg : fK.getD k 0 = n := by
    rw [hf, List.getD_eq_getElem?_getD]
    unfold nats
    rw [List.getElem?_map, hp]
    simp
  have hlt := Nat.xor_lt_two_pow (n := 8) hn hy2
  refine ⟨?_, fun x hx => ?_⟩
  · rw [nats_set]
    unfold spoilt
    rw [hg, hf]
    simp
  · rcases List.mem_or_eq_of_mem_set hx with h | h
    · exact hB x h
    · rw [h]; omega
set_option maxRecDepth 100000 in
set_option maxHeartbeats 4000000 in
theorem known_any (m : Int) (w : World) (h1 : 0 < w.heap.size) (h0 : w.cell? ⟨0, 0, none⟩ = some (.int .i64 m)) :
    Calls Try.prog 7 #[] w fun e w' => e = .returned (.bool true) ∧ Below w.heap.size w w' := by
  have KS := Lib.hid (Kk.start w m h1 h0 54 2 3 26)
  have HPT : Hid (∀ V, Kk w V m → Calls Try.prog 11 #[.agg #[.slice (some ⟨w.heap.size, 0, none⟩) 2 2, .slice (some ⟨w.heap.size + 1, 0, none⟩) 3 3, .slice (some ⟨w.heap.size + 1 + 1, 0, none⟩) 3 3, .string zK.footer]] V fun e w' => ∃ gb cb, e = .returned (.tuple #[.slice (some ⟨gb, 0, none⟩) 171 cb, .int .i64 0]) ∧ V.heap.size ≤ gb ∧ FileAt w' gb cb ∧ Below V.heap.size V w') := Lib.hid fun V hV => by
    refine (put_yes zK _ _ _ V.heap.size V hV.at_ (ok_of_few zK_in (n := 500) (by decide) (by decide)) (Nat.le_refl _) zK_right).mono ?_
    rintro e w' ⟨v, rfl, ho, hb⟩
    have hlen : (putB zK).length = 171 := by have := fK_len; unfold fK at this; rwa [nats_len] at this
    obtain ⟨g, c, rfl, c1, c2, hs⟩ := own_open ho (putB_byt zK) (by omega)
    rw [hlen] at c1 hs ⊢
    have hg := Own.lt ho g rfl
    exact ⟨g, c, rfl, hg.1, ⟨sb_low hs (Nat.lt_succ_self _), hg.2, c1, c2⟩, hb⟩
  have HPS : Hid (∀ V sec, Kk w V m → Calls Try.prog 3 #[.agg #[.slice (some ⟨w.heap.size, 0, none⟩) 2 2, .slice (some ⟨w.heap.size + 1, 0, none⟩) 3 3, .slice (some ⟨w.heap.size + 1 + 1, 0, none⟩) 3 3, .string zK.footer], .agg #[.slice (some ⟨w.heap.size, 0, none⟩) 2 2, .slice (some ⟨w.heap.size + 1, 0, none⟩) 3 3, .slice (some ⟨w.heap.size + 1 + 1, 0, none⟩) 3 3, .string zK.footer], .int .i64 sec] V fun e w' => e = .returned (.bool true) ∧ Below V.heap.size V w') := Lib.hid fun V sec hV => tzifPuts_any zK zK _ _ _ _ _ _ sec V hV.at_ zK_in hV.at_ zK_in
  have HBK : Hid (∀ V cut, 0 ≤ cut ∧ cut ≤ 65535 → Kk w V m → Calls Try.prog 4 #[.agg #[.slice (some ⟨w.heap.size, 0, none⟩) 2 2, .slice (some ⟨w.heap.size + 1, 0, none⟩) 3 3, .slice (some ⟨w.heap.size + 1 + 1, 0, none⟩) 3 3, .string zK.footer], .int .u16 cut] V fun e w' => e = .returned (.bool true) ∧ Below V.heap.size V w') := Lib.hid fun V cut hc hV => tzifBack_any zK _ _ _ cut m V hV.at_ zK_in hc hV.gl
  have HOL : Hid (∀ V at_ by_, 0 ≤ at_ ∧ at_ ≤ 65535 → 0 ≤ by_ ∧ by_ ≤ 255 → Kk w V m → Calls Try.prog 5 #[.agg #[.slice (some ⟨w.heap.size, 0, none⟩) 2 2, .slice (some ⟨w.heap.size + 1, 0, none⟩) 3 3, .slice (some ⟨w.heap.size + 1 + 1, 0, none⟩) 3 3, .string zK.footer], .int .u16 at_, .int .u8 by_] V fun e w' => e = .returned (.bool true) ∧ Below V.heap.size V w') := Lib.hid fun V a b ha hb hV => tzifOld_any zK _ _ _ a b m V hV.at_ zK_in ha hb hV.gl
  clear h1 h0
  go_enter Try.func7, Try.ntmps7
  go_upto_region 2 with (fail)
  refine wp_world (R := fun K => Kk w K m) KS.out ?_
  clear KS
  rintro X hX
  have K0 := Lib.hid hX
  clear hX
  have q0 := K0.out.box.c0
  have q1 := K0.out.box.c1
  have q2 := K0.out.box.c2
  have q3 := K0.out.box.c3
  go_wp2_with (first
    | (go_at_call 11; refine (HPT.out _ K0.out).mono ?_; clear HPT q0 q1 q2 q3; rintro e V1 ⟨gb, cb, rfl, hg, hf, hb⟩; have K1 := Lib.hid (K0.out.step hb K0.out.size); have F1 := Lib.hid hf; have GB := Lib.hid (Nat.le_trans K0.out.size hg); clear hg hf hb; have q0 := K1.out.box.c0; have q1 := K1.out.box.c1; have q2 := K1.out.box.c2; have q3 := K1.out.box.c3)
    | (go_at_call 3; refine (HPS.out _ _ K1.out).mono ?_; clear q0 q1 q2 q3; rintro e V2 ⟨rfl, hb⟩; have K2 := Lib.hid (K1.out.step hb K1.out.size); have F2 := Lib.hid (F1.out.step hb F1.out.2.1); clear hb; have q0 := K2.out.box.c0; have q1 := K2.out.box.c1; have q2 := K2.out.box.c2; have q3 := K2.out.box.c3)
    | (go_at_call 4; refine (HBK.out _ _ (by decide) K2.out).mono ?_; clear q0 q1 q2 q3; rintro e V3 ⟨rfl, hb⟩; have K3 := Lib.hid (K2.out.step hb K2.out.size); have F3 := Lib.hid (F2.out.step hb F2.out.2.1); clear hb; have q0 := K3.out.box.c0; have q1 := K3.out.box.c1; have q2 := K3.out.box.c2; have q3 := K3.out.box.c3)
    | (go_at_call 5; refine (HOL.out _ _ _ (by decide) (by decide) K3.out).mono ?_; clear q0 q1 q2 q3; rintro e V4 ⟨rfl, hb⟩; have K4 := Lib.hid (K3.out.step hb K3.out.size); have F4 := Lib.hid (F3.out.step hb F3.out.2.1); clear hb)
    | fail)
  go_loopw [4] (fun i wr => ∃ (k : Nat), k ≤ 171 ∧ i = .int .i64 k ∧ Kk w wr m ∧ FileAt wr gb cb) (fun i _ => 171 - (intOf i).toNat)
  case atStart => exact ⟨0, Nat.zero_le _, rfl, K4.out, F4.out⟩
  case round =>
    obtain ⟨k, hk, rfl, hK, hF⟩ := hrel
    obtain ⟨W1, rfl⟩ : ∃ W1, W1 = wr := ⟨_, rfl⟩
    have KR := Lib.hid hK
    have FR := Lib.hid hF
    clear hK hF K4 F4
    by_cases hlt : k < 171
    · have k0 : (0 : Int) ≤ (k : Int) := by omega
      have k1 : (k : Int) < 171 := by omega
      go_wp2_with fail
      go_loopw [55] (fun i wx => ∃ (j : Nat), j ≤ 3 ∧ i = .int .i64 j ∧ Below (W1.heap.size + 1) (W1.alloc (.cells #[.int .u8 1, .int .u8 128, .int .u8 255] 5)) wx) (fun i _ => 3 - (intOf i).toNat)
      case atStart => exact ⟨0, Nat.zero_le _, rfl, Below.refl _ _⟩
      case round =>
        obtain ⟨j, hj, rfl, hb⟩ := hrel
        have FW := Lib.hid ((FR.out.step ((Below.refl W1.heap.size W1).alloc (Nat.le_refl _) _) FR.out.2.1).step hb (by have := FR.out.2.1; omega))
        have KW := Lib.hid ((KR.out.alloc _).step hb (by have := KR.out.size; omega))
        have BW := Lib.hid hb
        clear hb
        by_cases hj3 : j < 3
        · obtain ⟨y, hy, hc⟩ : ∃ y : Nat, (y = 1 ∨ y = 128 ∨ y = 255) ∧ wr.cell? ⟨W1.heap.size, j, none⟩ = some (.int .u8 y) := by
            have hq : ∀ i u, (#[.int .u8 1, .int .u8 128, .int .u8 255] : Array Value)[i]? = some u → wr.cell? ⟨W1.heap.size, i, none⟩ = some u := fun i u hu => cells_at _ BW.out (Nat.lt_succ_self _) (cell_new W1 _ _ _ i u rfl hu)
            match j, hj3 with
            | 0, _ => exact ⟨1, .inl rfl, hq 0 _ rfl⟩
            | 1, _ => exact ⟨128, .inr (.inl rfl), hq 1 _ rfl⟩
            | 2, _ => exact ⟨255, .inr (.inr rfl), hq 2 _ rfl⟩
          have HYY := Lib.hid hy
          obtain ⟨pb, hpb⟩ : ∃ pb, putB zK = pb := ⟨_, rfl⟩
          have hfk : fK = nats pb := by unfold fK; rw [hpb]
          have hL : pb.length = 171 := by have := fK_len; rw [hfk, nats_len] at this; exact this
          have HBY : Hid (Byt pb) := Lib.hid (by rw [← hpb]; exact putB_byt zK)
          have HSB : Hid (SB wr (gb + 1) (some ⟨gb, 0, none⟩) 171 cb (nats pb)) := Lib.hid (by rw [← hfk]; exact FW.out.1)
          obtain ⟨px, hpx⟩ : ∃ px, pb[k]? = some px := ⟨_, List.getElem?_eq_getElem (by omega)⟩
          have HPX := Lib.hid hpx
          have HFK := Lib.hid hfk
          have HK1 : Hid True := Lib.hid trivial
          have j0 : (0 : Int) ≤ (j : Int) := by omega
          have j1 : (j : Int) < 3 := by omega
          have n2 : (171 : Int) ≤ (cb : Int) := by have := FW.out.2.2.1; omega
          have n3 : (cb : Int) ≤ 9223372036854775807 := by have := FW.out.2.2.2; omega
          have hsp := spoilt_eq hfk HBY.out hpx hy
          have HSP := Lib.hid hsp
          clear hpb hpx hfk hy hsp
          go_wp2_with (first
            | (at_builtin; clear HK1; refine plain_append_bytes (.tmp 59) (.tmp 60) rfl rfl wr.heap.size _ [] pb ⟨gb, 0, none⟩ 171 cb rfl rfl hL (Own.empty2 wr wr.heap.size wr.heap.size rfl (Nat.le_refl _)) (sb_cells (HSB.out.below ((Below.refl wr.heap.size wr).alloc (Nat.le_refl _) _) FW.out.2.1) HBY.out) (by show 0 + 171 ≤ _; omega) (by simp) ?_; intro v1 U1 hO hG; rw [List.nil_append] at hO; have B1 := Lib.hid (((Below.refl wr.heap.size wr).alloc (Nat.le_refl _) _).trans (grew_below (Own.empty2 wr wr.heap.size wr.heap.size rfl (Nat.le_refl _)) hG (Nat.le_refl _) (by simp))); obtain ⟨g9, c9, rfl, m1, m2, hs9⟩ := own_open hO HBY.out (by rw [hL]; omega); rw [hL] at hs9 m1 hO ⊢; have O1 := Lib.hid hO; have s1 : U1.cell? ⟨g9, k, none⟩ = some (by8 px) := (by have := sb_cells hs9 HBY.out k px HPX.out; rwa [Own_add] at this); have s2 : U1.frozen? ⟨g9, k, none⟩ = false := Own.loose hO hL k; have n4 : (k : Int) < (c9 : Int) := (by omega); have G9 : Hid (wr.heap.size ≤ g9) := Lib.hid (hO.lt g9 rfl).1; unfold by8 at s1; clear hG hs9 m1 m2 hO)
            | (go_at_call 20; have hoc := O1.out.stored hL k (bits .xor .u8 px (y : Int)); have BS := Lib.hid (B1.out.setCell (p := ⟨g9, k, none⟩) G9.out (by8 (bits .xor .u8 px (y : Int)))); have KS := Lib.hid (KW.out.step BS.out KW.out.size); have hsb := own_sb_at hoc HSP.out.2; rw [HSP.out.1] at hsb; refine (tparses_any (spoilt k y) g9 0 171 c9 m _ hsb (spoilt_byt (by have := HYY.out; omega)) (by decide) (Nat.lt_of_lt_of_le (Nat.succ_pos _) KS.out.size) KS.out.gl (fun _ => spoilt_ver HYY.out)).mono ?_; clear s1 s2 hoc hsb; rintro e V9 ⟨rfl, hb⟩; have B9 := Lib.hid (BS.out.trans (hb.mono BS.out.size)); clear hb)
            | fail)
          exact ⟨⟨j + 1, hj3, by go_num, BW.out.trans (B9.out.mono (by have := BW.out.size; simpa using this))⟩, by simp [intOf]; omega⟩
        · have j3 : ¬ (j : Int) < 3 := by omega
          have hn2 : (k : Int) ≤ 171 := by omega
          have n2 : (k : Int) ≤ (cb : Int) := by have := FW.out.2.2.1; omega
          have hw : IntKind.u16.wrap (k : Int) = (k : Int) := by
            have h16 : (2 : Int) ^ IntKind.u16.bits = 65536 := by decide
            have hsg : IntKind.u16.signed = false := rfl
            simp [IntKind.wrap, h16, hsg]
            omega
          go_wp2_with (first
            | (go_at_call 20; refine (tparses_any (fK.take k) gb 0 k cb m wr ((FW.out.1.take (by omega)).up FW.out.2.1) (fun b hx => fK_byt b (List.mem_of_mem_take hx)) (by omega) (Nat.lt_of_lt_of_le (Nat.succ_pos _) KW.out.size) KW.out.gl (cut_ver k)).mono ?_; rintro e V9 ⟨rfl, hb⟩; have K9 := Lib.hid (KW.out.step hb KW.out.size); have F9 := Lib.hid (FW.out.step hb FW.out.2.1); clear hb; have q0 := K9.out.box.c0; have q1 := K9.out.box.c1; have q2 := K9.out.box.c2; have q3 := K9.out.box.c3)
            | (go_at_call 4; refine (HBK.out _ _ (by omega) K9.out).mono ?_; clear q0 q1 q2 q3; rintro e V10 ⟨rfl, hb⟩; have K10 := Lib.hid (K9.out.step hb K9.out.size); have F10 := Lib.hid (F9.out.step hb F9.out.2.1); clear hb)
            | fail)
          exact ⟨⟨k + 1, hlt, by go_num, K10.out, F10.out⟩, by simp [intOf]; omega⟩
    · have k1 : ¬ (k : Int) < 171 := by omega
      go_wp2_with fail
      refine wp_world (R := fun V => Kx w V m W1.heap.size) ?_ ?_
      · exact ⟨KR.out.alloc _, tab_sl W1 _, KR.out.size, by simp⟩
      rintro X3 hX3
      obtain ⟨P, hP⟩ : ∃ P, W1.heap.size = P := ⟨_, rfl⟩
      rw [hP] at hX3 ⊢
      have K5 := Lib.hid hX3
      clear hX3 hP KR FR
      go_loopw [102] (fun i wr => ∃ k3 : Nat, k3 ≤ 10 ∧ i = .int .i64 k3 ∧ Kx w wr m P) (fun i _ => 10 - (intOf i).toNat)
      case atStart => exact ⟨0, Nat.zero_le _, rfl, K5.out⟩
      case round =>
        obtain ⟨k3, hk3, rfl, hK3⟩ := hrel
        obtain ⟨W3, rfl⟩ : ∃ W3, W3 = wr := ⟨_, rfl⟩
        have KX := Lib.hid hK3
        clear hK3 K5
        by_cases hlt3 : k3 < 10
        · obtain ⟨x, hx⟩ : ∃ x, tabK[k3]? = some x := ⟨_, List.getElem?_eq_getElem (by rw [show tabK.length = 10 from rfl]; exact hlt3)⟩
          obtain ⟨c0, c1, c2⟩ := KX.out.cells hx
          have HTX : Hid (TyIn x) := Lib.hid (tabK_in x (List.mem_of_getElem? hx))
          have i0 : (0 : Int) ≤ (k3 : Int) := by omega
          have i1 : (k3 : Int) < 10 := by omega
          clear hx
          go_wp2_with fail
          refine wp_world (R := fun V => Ky w V m P x W3.heap.size) (Ky.start KX.out _ _ x) ?_
          rintro X4 hX4
          obtain ⟨Q, hQ⟩ : ∃ Q, W3.heap.size = Q := ⟨_, rfl⟩
          rw [hQ] at hX4 ⊢
          have K6 := Lib.hid hX4
          clear hX4 hQ c0 c1 c2 KX
          go_loopw [108] (fun i wr => ∃ j : Nat, j ≤ 6 ∧ i = .int .i64 j ∧ Ky w wr m P x Q) (fun i _ => 6 - (intOf i).toNat)
          case atStart => exact ⟨0, Nat.zero_le _, rfl, K6.out⟩
          case round =>
            obtain ⟨j, hj, rfl, hK⟩ := hrel
            obtain ⟨W5, rfl⟩ : ∃ W5, W5 = wr := ⟨_, rfl⟩
            have KY := Lib.hid hK
            clear hK K6
            by_cases hj6 : j < 6
            · obtain ⟨n, r, n1, n2, r1, hmod, h16, ⟨b8, h8, b0, b1⟩, hc⟩ := num_in KY.out hj6
              have HB8 := Lib.hid (And.intro b0 b1)
              have HN := Lib.hid (And.intro n1 n2)
              have j0 : (0 : Int) ≤ (j : Int) := by omega
              have j1 : (j : Int) < 6 := by omega
              have r0 : (0 : Int) ≤ (r : Int) := by omega
              have r2 : (r : Int) < 16 := by omega
              clear b0 b1 n1 n2
              go_wp2_with fail
              have hfs : (ByteArray.extract ⟨#[97, 98, 99, 100, 101, 102, 103, 104, 105, 106, 107, 108, 109, 110, 111, 112]⟩ 0 r).size ≤ 9223372036854775807 := by
                rw [ByteArray.size_extract]
                exact Nat.le_trans (Nat.sub_le _ _) (Nat.le_trans (Nat.min_le_right _ _) (by decide))
              have HFS := Lib.hid hfs
              have H16 := Lib.hid h16
              have H8 := Lib.hid h8
              refine wp_world (R := fun V => Kw w V m P x Q W5.heap.size (ByteArray.extract ⟨#[97, 98, 99, 100, 101, 102, 103, 104, 105, 106, 107, 108, 109, 110, 111, 112]⟩ 0 r) 0 none 0) (Kw.start KY.out _ _) ?_
              rintro X7 hX7
              generalize ByteArray.extract ⟨#[97, 98, 99, 100, 101, 102, 103, 104, 105, 106, 107, 108, 109, 110, 111, 112]⟩ 0 r = f at *
              obtain ⟨Z, hZ⟩ : ∃ Z, W5.heap.size = Z := ⟨_, rfl⟩
              rw [hZ] at hX7 ⊢
              have K7 := Lib.hid hX7
              clear hX7 hZ hfs hc hmod h16 h8 r0 r2 r1
              go_loopw [14] (fun i wr => ∃ (k7 : Nat) (A : Option Addr) (c : Nat), k7 ≤ n ∧ i = .int .i64 k7 ∧ Kw w wr m P x Q Z f k7 A c) (fun i _ => n - (intOf i).toNat)
              case atStart => exact ⟨0, none, 0, Nat.zero_le _, rfl, K7.out⟩
              case round =>
                obtain ⟨k7, A, c, hk7, rfl, hK⟩ := hrel
                obtain ⟨W6, rfl⟩ : ∃ W6, W6 = wr := ⟨_, rfl⟩
                have KW := Lib.hid hK
                clear hK K7
                have z0 := KW.out.box.c0
                by_cases h7 : k7 < n
                · have a0 : (0 : Int) ≤ (k7 : Int) := by omega
                  have a1 : (k7 : Int) < (n : Int) := by omega
                  have a2 : (n : Int) ≤ 256 := by have := HN.out.2; omega
                  have t0 := KW.out.y.ty 0 _ rfl
                  have t1 := KW.out.y.ty 1 _ rfl
                  have t2 := KW.out.y.ty 2 _ rfl
                  go_wp2_with (first
                    | (at_builtin; refine plain_append_ty (.tmp 123) (.tmp 125) rfl rfl (Z + 1) (k7 + 1) _ (List.replicate k7 x) x W6.heap.size rfl rfl (KW.out.own.alloc _) (three_cells W6 x _ _ rfl) (by rw [List.length_replicate]; have := HN.out.2; omega) (by have := KW.out.box.lt; simp; omega) (by rw [List.length_replicate]) ?_; intro A7 c7 V7 hO hG; have HO7 := Lib.hid hO; have HB7 := Lib.hid (growY_below (KW.out.own.alloc _) hG (Nat.le_refl _) (by have := KW.out.box.lt; simp; omega)); have BA := Lib.hid ((Below.refl W6.heap.size W6).alloc (Nat.le_refl _) (.cells #[.int .i64 x.off, .bool x.dst, .string x.abbr] 54)); have ZV7 := Lib.hid ((KW.out.box.below BA.out KW.out.box.lt).below HB7.out (Nat.lt_succ_self _)); have KY7 := Lib.hid ((KW.out.y.step BA.out (by have := KW.out.lo; have := KW.out.box.lt; omega)).step HB7.out (by have := KW.out.lo; omega)); have z7 := ZV7.out.c0; have f7 := ZV7.out.fr 0; clear hO hG z0 t0 t1 t2)
                    | fail)
                  refine ⟨⟨k7 + 1, A7, c7, h7, by go_num, ⟨KY7.out.step ((Below.refl Z V7).setCell (Nat.le_refl Z) _) (by have := KW.out.lo; omega), ZV7.out.set0 _, ?_, KW.out.lo⟩⟩, by simp [intOf]; omega⟩
                  have := HO7.out.set (Nat.lt_succ_self Z) 0 (.slice A7 (k7 + 1) c7)
                  rwa [← List.replicate_succ'] at this
                · have a1 : ¬ (k7 : Int) < (n : Int) := by omega
                  have e7 : k7 = n := by omega
                  have KN : Hid (Kw w W6 m P x Q Z f n A c) := Lib.hid (by have := KW.out; rwa [e7] at this)
                  clear z0 e7
                  have z0 := KN.out.box.c0
                  have z1 := KN.out.box.c1
                  have z2 := KN.out.box.c2
                  have z3 := KN.out.box.c3
                  have q0 := KN.out.y.k.k.box.c0
                  have q1 := KN.out.y.k.k.box.c1
                  have q2 := KN.out.y.k.k.box.c2
                  have q3 := KN.out.y.k.k.box.c3
                  have ZI : Hid (ZnIn ⟨List.replicate n x, [], [], f⟩) := Lib.hid (rep_in HTX.out HN.out.2 HFS.out)
                  have u0 : (0 : Int) ≤ (n : Int) ∧ (n : Int) ≤ 65535 := by have := HN.out.2; omega
                  have HU := Lib.hid u0
                  clear u0
                  have h16 := H16.out
                  have h8 := H8.out
                  go_wp2_with (first
                    | (go_at_call 3; refine (tzifPuts_any ⟨List.replicate n x, [], [], f⟩ zK _ _ _ _ _ _ 0 W6 KN.out.at_ ZI.out KN.out.y.k.k.at_ zK_in).mono ?_; clear z0 z1 z2 z3 q0 q1 q2 q3; rintro e V8 ⟨rfl, hb⟩; have K8 := Lib.hid (KN.out.step hb); clear hb; have z0 := K8.out.box.c0; have z1 := K8.out.box.c1; have z2 := K8.out.box.c2; have z3 := K8.out.box.c3)
                    | (go_at_call 5; refine (tzifOld_any ⟨List.replicate n x, [], [], f⟩ _ _ _ _ _ m V8 K8.out.at_ ZI.out HU.out HB8.out K8.out.y.k.k.gl).mono ?_; clear z0 z1 z2 z3; rintro e V9 ⟨rfl, hb⟩; have K9 := Lib.hid (K8.out.step hb); clear hb)
                    | fail)
                  exact ⟨⟨j + 1, hj6, by go_num, K9.out.y⟩, by simp [intOf]; omega⟩
            · have j1 : ¬ (j : Int) < 6 := by omega
              go_wp2_with fail
              exact ⟨⟨k3 + 1, hlt3, by go_num, KY.out.k⟩, by simp [intOf]; omega⟩
        · have i1 : ¬ (k3 : Int) < 10 := by omega
          have q0 := KX.out.k.box.c0
          have q1 := KX.out.k.box.c1
          have q2 := KX.out.k.box.c2
          have q3 := KX.out.k.box.c3
          go_upto_region 36 with (fail)
          refine wp_world (R := fun V => Kb w V m W3.heap.size (.slice (some ⟨w.heap.size, 0, none⟩) 2 2) (.slice (some ⟨w.heap.size + 1, 0, none⟩) 3 3) (.slice (some ⟨W3.heap.size + 1, 0, none⟩) 3 3) [0, 2, 0]) (Kb.start KX.out.k _ _ _ 0 2 0 _ _) ?_
          rintro XA hXA
          obtain ⟨Z1, hZ1⟩ : ∃ Z1, W3.heap.size = Z1 := ⟨_, rfl⟩
          rw [hZ1] at hXA ⊢
          have KA := Lib.hid hXA
          clear hXA hZ1 q0 q1 q2 q3 KX
          have q0 := KA.out.k.box.c0
          have q1 := KA.out.k.box.c1
          have q2 := KA.out.k.box.c2
          have q3 := KA.out.k.box.c3
          go_upto_region 38 with (fail)
          refine wp_world (R := fun V => Kb w V m Z1 (.slice (some ⟨w.heap.size, 0, none⟩) 2 2) (.slice (some ⟨w.heap.size + 1, 0, none⟩) 3 3) (.slice (some ⟨Z1 + 1, 0, none⟩) 3 3) [0, 2, 0] ∧ Kb w V m XA.heap.size (.slice (some ⟨w.heap.size, 0, none⟩) 2 2) (.slice (some ⟨XA.heap.size + 1, 0, none⟩) 3 3) (.slice (some ⟨w.heap.size + 1 + 1, 0, none⟩) 3 3) [1, 1, 2]) ⟨KA.out.step (C := XA.heap.size) (((Below.refl XA.heap.size XA).alloc (Nat.le_refl _) _).alloc (by simp) _) KA.out.lt, Kb.start KA.out.k _ _ _ 1 1 2 _ _⟩ ?_
          rintro XB ⟨hXA, hXB⟩
          obtain ⟨Z2, hZ2⟩ : ∃ Z2, XA.heap.size = Z2 := ⟨_, rfl⟩
          rw [hZ2] at hXB ⊢
          have KB1 := Lib.hid hXA
          have KB2 := Lib.hid hXB
          clear hXA hXB hZ2 q0 q1 q2 q3 KA
          have q0 := KB1.out.k.box.c0
          have q1 := KB1.out.k.box.c1
          have q2 := KB1.out.k.box.c2
          have q3 := KB1.out.k.box.c3
          go_upto_region 39 with (fail)
          refine wp_world (R := fun V => Kb w V m Z1 (.slice (some ⟨w.heap.size, 0, none⟩) 2 2) (.slice (some ⟨w.heap.size + 1, 0, none⟩) 3 3) (.slice (some ⟨Z1 + 1, 0, none⟩) 3 3) [0, 2, 0] ∧ Kb w V m Z2 (.slice (some ⟨w.heap.size, 0, none⟩) 2 2) (.slice (some ⟨Z2 + 1, 0, none⟩) 3 3) (.slice (some ⟨w.heap.size + 1 + 1, 0, none⟩) 3 3) [1, 1, 2] ∧ ZnBox V XB.heap.size (.slice (some ⟨w.heap.size, 0, none⟩) 2 2) (.slice (some ⟨w.heap.size + 1, 0, none⟩) 3 3) (.slice (some ⟨w.heap.size + 1 + 1, 0, none⟩) 3 3) (.string zK.footer) ∧ Z1 + 2 ≤ XB.heap.size ∧ Z2 + 2 ≤ XB.heap.size) ⟨KB1.out.step (C := XB.heap.size) ((Below.refl XB.heap.size XB).alloc (Nat.le_refl _) _) KB1.out.lt, KB2.out.step (C := XB.heap.size) ((Below.refl XB.heap.size XB).alloc (Nat.le_refl _) _) KB2.out.lt, ZnBox.new XB _ rfl _ _ _ _ _, KB1.out.lt, KB2.out.lt⟩ ?_
          rintro XD ⟨hX1, hX2, hX3, hX4, hX5⟩
          obtain ⟨Z3, hZ3⟩ : ∃ Z3, XB.heap.size = Z3 := ⟨_, rfl⟩
          rw [hZ3] at hX3 hX4 hX5 ⊢
          have D1 := Lib.hid hX1
          have D2 := Lib.hid hX2
          have D3 := Lib.hid hX3
          have D4 := Lib.hid hX4
          have D5 := Lib.hid hX5
          clear hX1 hX2 hX3 hX4 hX5 hZ3 q0 q1 q2 q3 KB1 KB2
          have q1 := D1.out.k.box.c1
          have a1 := D3.out.c1
          have fa := D3.out.fr 1
          go_upto_region 40 with (fail)
          refine wp_world (R := fun V => Ke w V m Z1 Z2 Z3) ⟨D1.out.step ((Below.refl Z3 XD).setCell (Nat.le_refl Z3) _) D4.out, D2.out.step ((Below.refl Z3 XD).setCell (Nat.le_refl Z3) _) D5.out, D3.out.set1 _⟩ ?_
          rintro XC hXC
          have E0 := Lib.hid hXC
          clear hXC q1 a1 fa D1 D2 D3 D4 D5
          have q0 := E0.out.k.box.c0
          have q1 := E0.out.k.box.c1
          have q2 := E0.out.k.box.c2
          have q3 := E0.out.k.box.c3
          have a0 := E0.out.a.box.c0
          have a1 := E0.out.a.box.c1
          have a2 := E0.out.a.box.c2
          have a3 := E0.out.a.box.c3
          have HP1 : Hid (∀ V, Ke w V m Z1 Z2 Z3 → Calls Try.prog 3 #[.agg #[.slice (some ⟨w.heap.size, 0, none⟩) 2 2, .slice (some ⟨w.heap.size + 1, 0, none⟩) 3 3, .slice (some ⟨Z1 + 1, 0, none⟩) 3 3, .string zK.footer], .agg #[.slice (some ⟨w.heap.size, 0, none⟩) 2 2, .slice (some ⟨w.heap.size + 1, 0, none⟩) 3 3, .slice (some ⟨w.heap.size + 1 + 1, 0, none⟩) 3 3, .string zK.footer], .int .i64 0] V fun e w' => e = .returned (.bool true) ∧ Ke w w' m Z1 Z2 Z3) := Lib.hid fun V hV => (tzifPuts_any ⟨zK.types, zK.times, [0, 2, 0], zK.footer⟩ zK _ _ _ _ _ _ 0 V hV.bad bad_in hV.k.at_ zK_in).mono fun e w' ⟨he, hb⟩ => ⟨he, hV.step hb⟩
          have HP2 : Hid (∀ V, Ke w V m Z1 Z2 Z3 → Calls Try.prog 3 #[.agg #[.slice (some ⟨w.heap.size, 0, none⟩) 2 2, .slice (some ⟨Z2 + 1, 0, none⟩) 3 3, .slice (some ⟨w.heap.size + 1 + 1, 0, none⟩) 3 3, .string zK.footer], .agg #[.slice (some ⟨w.heap.size, 0, none⟩) 2 2, .slice (some ⟨w.heap.size + 1, 0, none⟩) 3 3, .slice (some ⟨w.heap.size + 1 + 1, 0, none⟩) 3 3, .string zK.footer], .int .i64 1] V fun e w' => e = .returned (.bool true) ∧ Ke w w' m Z1 Z2 Z3) := Lib.hid fun V hV => (tzifPuts_any ⟨zK.types, [1, 1, 2], zK.index, zK.footer⟩ zK _ _ _ _ _ _ 1 V hV.same same_in hV.k.at_ zK_in).mono fun e w' ⟨he, hb⟩ => ⟨he, hV.step hb⟩
          have HP3 : Hid (∀ V, Ke w V m Z1 Z2 Z3 → Calls Try.prog 3 #[.agg #[.slice (some ⟨w.heap.size, 0, none⟩) 2 2, .slice (some ⟨w.heap.size + 1, 0, none⟩) 2 3, .slice (some ⟨w.heap.size + 1 + 1, 0, none⟩) 3 3, .string zK.footer], .agg #[.slice (some ⟨w.heap.size, 0, none⟩) 2 2, .slice (some ⟨w.heap.size + 1, 0, none⟩) 3 3, .slice (some ⟨w.heap.size + 1 + 1, 0, none⟩) 3 3, .string zK.footer], .int .i64 1] V fun e w' => e = .returned (.bool true) ∧ Ke w w' m Z1 Z2 Z3) := Lib.hid fun V hV => (tzifPuts_any ⟨zK.types, [-1099511627776, 0], zK.index, zK.footer⟩ zK _ _ _ _ _ _ 1 V hV.less less_in hV.k.at_ zK_in).mono fun e w' ⟨he, hb⟩ => ⟨he, hV.step hb⟩
          have HP4 : Hid (∀ V, Ke w V m Z1 Z2 Z3 → Calls Try.prog 3 #[.agg #[.slice none 0 0, .slice none 0 0, .slice none 0 0, .string ⟨#[]⟩], .agg #[.slice (some ⟨w.heap.size, 0, none⟩) 2 2, .slice (some ⟨w.heap.size + 1, 0, none⟩) 3 3, .slice (some ⟨w.heap.size + 1 + 1, 0, none⟩) 3 3, .string zK.footer], .int .i64 0] V fun e w' => e = .returned (.bool true) ∧ Ke w w' m Z1 Z2 Z3) := Lib.hid fun V hV => (tzifPuts_any ⟨[], [], [], ⟨#[]⟩⟩ zK _ _ _ _ _ _ 0 V (none_at V) none_in hV.k.at_ zK_in).mono fun e w' ⟨he, hb⟩ => ⟨he, hV.step hb⟩
          have HP5 : Hid (∀ V, Ke w V m Z1 Z2 Z3 → Calls Try.prog 5 #[.agg #[.slice (some ⟨w.heap.size, 0, none⟩) 2 2, .slice (some ⟨V.heap.size, 0, none⟩) 2 2, .slice (some ⟨V.heap.size + 1, 0, none⟩) 2 2, .string ⟨#[]⟩], .int .u16 0, .int .u8 0] ((V.alloc (.cells #[.int .i64 (-2147483648), .int .i64 2147483647] 2)).alloc (.cells #[.int .i64 1, .int .i64 0] 3)) fun e w' => e = .returned (.bool true) ∧ Below w.heap.size w w') := Lib.hid fun V hV => (tzifOld_any ⟨zK.types, [-2147483648, 2147483647], [1, 0], ⟨#[]⟩⟩ _ _ _ 0 0 m _ (old_at hV.k _ _) old_in (by decide) (by decide) ((hV.k.alloc _).alloc _).gl).mono fun e w' ⟨he, hb⟩ => ⟨he, ((hV.k.alloc _).alloc _).on hb⟩
          have HWK : Hid (∀ V, Calls Try.prog 9 #[] V fun e w' => e = .returned (.bool true) ∧ Below V.heap.size V w') := Lib.hid works_any
          go_wp2_with (first
            | (go_at_call 3; refine (HP1.out _ E0.out).mono ?_; clear HP1 q0 q1 q2 q3 a0 a1 a2 a3; rintro e V1 ⟨rfl, hk⟩; have E1 := Lib.hid hk; clear hk; have q0 := E1.out.k.box.c0; have q1 := E1.out.k.box.c1; have q2 := E1.out.k.box.c2; have q3 := E1.out.k.box.c3; have a0 := E1.out.b.box.c0; have a1 := E1.out.b.box.c1; have a2 := E1.out.b.box.c2; have a3 := E1.out.b.box.c3)
            | (go_at_call 3; refine (HP2.out _ E1.out).mono ?_; clear HP2 q0 q1 q2 q3 a0 a1 a2 a3; rintro e V2 ⟨rfl, hk⟩; have E2 := Lib.hid hk; clear hk; have q0 := E2.out.k.box.c0; have q1 := E2.out.k.box.c1; have q2 := E2.out.k.box.c2; have q3 := E2.out.k.box.c3; have a0 := E2.out.c.c0; have a1 := E2.out.c.c1; have a2 := E2.out.c.c2; have a3 := E2.out.c.c3)
            | (go_at_call 3; refine (HP3.out _ E2.out).mono ?_; clear HP3 q0 q1 q2 q3 a0 a1 a2 a3; rintro e V3 ⟨rfl, hk⟩; have E3 := Lib.hid hk; clear hk; have q0 := E3.out.k.box.c0; have q1 := E3.out.k.box.c1; have q2 := E3.out.k.box.c2; have q3 := E3.out.k.box.c3)
            | (go_at_call 3; refine (HP4.out _ E3.out).mono ?_; clear HP4 q0 q1 q2 q3; rintro e V4 ⟨rfl, hk⟩; have E4 := Lib.hid hk; clear hk; have q0 := E4.out.k.box.c0)
            | (go_at_call 5; refine (HP5.out _ E4.out).mono ?_; clear HP5 q0; rintro e V5 ⟨rfl, hb⟩; have B5 := Lib.hid hb; clear hb)
            | (go_at_call 9; refine (HWK.out _).mono ?_; clear HWK; rintro e V6 ⟨rfl, hb⟩; have B6 := Lib.hid (B5.out.trans (hb.mono B5.out.size)); clear hb)
            | fail)
          go_ret
          exact ⟨rfl, B6.out⟩
end Go.Proofs.Ytohpdpcjhmopbaa.Tz
