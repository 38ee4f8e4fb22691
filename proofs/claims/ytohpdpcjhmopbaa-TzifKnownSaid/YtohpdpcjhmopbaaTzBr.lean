/-
  Layer 6 (tzif): a block read, its times of 8 bytes.
-/
import Derived.Test.YtohpdpcjhmopbaaTzMg
namespace Go.Proofs.Ytohpdpcjhmopbaa.Tz
open Go.RowKit

set_option maxRecDepth 100000 in
set_option maxHeartbeats 2000000 in
theorem block_8 (h : Hd) (l : List Nat) (B g : Nat) (m : Int) (w : World) (hr : Rd w B g l) (ho : HdOk h) (hm : mayB h = true) (hl : longN h 8 ≤ l.length) (hb : ∀ b ∈ l, b < 256) (hB : 0 < B) (h0 : w.cell? ⟨0, 0, none⟩ = some (.int .i64 m)) :
    Calls Try.prog 45 #[.pointer (some ⟨g, 0, none⟩), hdVal h, .int .i64 8] w fun e w' => (tysOf (lettersL h 8 l) (rowsL h 8 l) = none → e = .returned (.tuple #[noZone, .bool false])) ∧ (∀ tys, tysOf (lettersL h 8 l) (rowsL h 8 l) = some tys → ∃ vt vs vi, e = .returned (.tuple #[.agg #[vt, vs, vi, .string ⟨#[]⟩], .bool true]) ∧ ZnOwn w' (w.heap.size + 2) ⟨tys, timesL h 8 val8 l, indexL h 8 l, ⟨#[]⟩⟩ vt vs vi ∧ Rd w' B g (l.drop (longN h 8))) ∧ w.grownBy w' (some g) := by
  have hms := may_small hm
  have HLEN := long_parts h 8 l hl
  have HM : Hid (∀ V, Calls Try.prog 54 #[hdVal h] V fun e w' => e = .returned (.bool true) ∧ Below V.heap.size V w') := Lib.hid fun V => by have := mayBe_any h V; rwa [hm] at this
  have HL : Hid (∀ V, Calls Try.prog 23 #[hdVal h, .int .i64 8] V fun e w' => e = .returned (.int .i64 (longN h 8)) ∧ Below V.heap.size V w') := Lib.hid fun V => blockLong_any h 8 (by decide) ho V
  have HRL : Hid (∀ V, Calls Try.prog 41 #[hdVal h, .int .i64 8] V fun e w' => e = .returned (.int .i64 (restN h 8)) ∧ Below V.heap.size V w') := Lib.hid fun V => restLong_any h 8 (by decide) ho V
  have HH : Hid (∀ V, Rd V B g l → Calls Try.prog 46 #[.pointer (some ⟨g, 0, none⟩), .int .i64 (longN h 8)] V fun e w' => e = .returned (.bool true) ∧ V = w') := Lib.hid fun V hV => by
    have := has_any l B g (longN h 8) V hV
    rwa [show decide (((longN h 8 : Nat) : Int) ≤ (l.length : Int)) = true by simp; omega] at this
  obtain ⟨l2, e2⟩ : ∃ l2, l.drop (8 * h.times) = l2 := ⟨_, rfl⟩
  obtain ⟨l3, e3⟩ : ∃ l3, l2.drop (1 * h.times) = l3 := ⟨_, rfl⟩
  obtain ⟨l4, e4⟩ : ∃ l4, l3.drop (6 * h.types) = l4 := ⟨_, rfl⟩
  obtain ⟨l5, e5⟩ : ∃ l5, l4.drop h.letters = l5 := ⟨_, rfl⟩
  have hb2 : ∀ b ∈ l2, b < 256 := fun b hx => hb b (by rw [← e2] at hx; exact List.mem_of_mem_drop hx)
  have hb3 : ∀ b ∈ l3, b < 256 := fun b hx => hb2 b (by rw [← e3] at hx; exact List.mem_of_mem_drop hx)
  have hb4 : ∀ b ∈ l4, b < 256 := fun b hx => hb3 b (by rw [← e4] at hx; exact List.mem_of_mem_drop hx)
  have n2 : l2.length = l.length - 8 * h.times := by rw [← e2, List.length_drop]
  have n3 : l3.length = l2.length - 1 * h.times := by rw [← e3, List.length_drop]
  have n4 : l4.length = l3.length - 6 * h.types := by rw [← e4, List.length_drop]
  have n5 : l5.length = l4.length - h.letters := by rw [← e5, List.length_drop]
  have H1 : Hid (∀ V, Rd V B g l → Calls Try.prog 52 #[.int .i64 h.times, .func (.func 55) #[.pointer (some ⟨g, 0, none⟩)] #[]] V fun e w' => ∃ A c, e = .returned (.slice A h.times c) ∧ OwnI w' V.heap.size 2 (.slice A h.times c) (timesL h 8 val8 l) ∧ Rd w' B g l2 ∧ V.grownBy w' (some g)) := Lib.hid fun V hV => by
    have := rows64_any 55 (by simp) l B g 8 h.times val8 V hV (fun V l hV hk hb => eight_any l B g V hV hk hb) (by omega) (by omega) hb
    rwa [e2] at this
  have H2 : Hid (∀ V, Rd V B g l2 → Calls Try.prog 57 #[.int .i64 h.times, .func (.func 58) #[.pointer (some ⟨g, 0, none⟩)] #[]] V fun e w' => ∃ A c, e = .returned (.slice A h.times c) ∧ OwnI w' V.heap.size 3 (.slice A h.times c) (indexL h 8 l) ∧ Rd w' B g l3 ∧ V.grownBy w' (some g)) := Lib.hid fun V hV => by
    have := rowsN_any l2 B g 1 h.times val1 V hV (fun V l hV hk hb => one_any l B g V hV hk hb) (by omega) (by omega) hb2
    unfold indexL
    rwa [e3, ← e2] at this
  have H3 : Hid (∀ V, Rd V B g l3 → Calls Try.prog 59 #[.int .i64 h.types, .func (.func 60) #[.pointer (some ⟨g, 0, none⟩)] #[]] V fun e w' => ∃ A c, e = .returned (.slice A h.types c) ∧ OwnW w' V.heap.size (.slice A h.types c) (rowsL h 8 l) ∧ Rd w' B g l4 ∧ V.grownBy w' (some g)) := Lib.hid fun V hV => by
    have := rowsR_any l3 B g h.types V hV (by omega) (by omega) hb3
    unfold rowsL
    rwa [e4, ← e3, ← e2] at this
  have H4 : Hid (∀ V, Rd V B g l4 → Calls Try.prog 47 #[.pointer (some ⟨g, 0, none⟩), .int .i64 h.letters] V fun e w' => ∃ A c, e = .returned (.slice A h.letters c) ∧ SB w' B A h.letters c (lettersL h 8 l) ∧ Rd w' B g l5 ∧ V.grownBy w' (some g)) := Lib.hid fun V hV => by
    have := take_any l4 B g h.letters V hV (by omega)
    unfold lettersL
    rwa [e5, ← e4, ← e3, ← e2] at this
  have H5 : Hid (∀ V, Rd V B g l5 → Calls Try.prog 47 #[.pointer (some ⟨g, 0, none⟩), .int .i64 (restN h 8)] V fun e w' => (∃ v, e = .returned v) ∧ Rd w' B g (l.drop (longN h 8)) ∧ V.grownBy w' (some g)) := Lib.hid fun V hV => by
    refine (take_any l5 B g (restN h 8) V hV (by omega)).mono ?_
    rintro e w' ⟨A, c, he, _, h1, h2⟩
    refine ⟨⟨_, he⟩, ?_, h2⟩
    rw [← e5, ← e4, ← e3, ← e2, List.drop_drop, List.drop_drop, List.drop_drop, List.drop_drop] at h1
    have e : 8 * h.times + (1 * h.times + (6 * h.types + (h.letters + restN h 8))) = longN h 8 := by unfold longN; omega
    rwa [e] at h1
  have HLB : Hid (∀ b ∈ lettersL h 8 l, b < 256) := Lib.hid fun b hx => hb b (by unfold lettersL at hx; exact List.mem_of_mem_drop (List.mem_of_mem_drop (List.mem_of_mem_drop (List.mem_of_mem_take hx))))
  have HRN : Hid (∀ r ∈ rowsL h 8 l, ∃ p : Nat, r.place = p) := Lib.hid fun r hx => rws_nat _ _ r hx
  have HRLEN : Hid ((rowsL h 8 l).length = h.types) := Lib.hid (rws_len _ _)
  obtain ⟨N, hN⟩ : ∃ N, longN h 8 = N := ⟨_, rfl⟩
  obtain ⟨M, hM⟩ : ∃ M, restN h 8 = M := ⟨_, rfl⟩
  obtain ⟨T, hT⟩ : ∃ T, timesL h 8 val8 l = T := ⟨_, rfl⟩
  obtain ⟨I, hI⟩ : ∃ I, indexL h 8 l = I := ⟨_, rfl⟩
  obtain ⟨R, hR⟩ : ∃ R, rowsL h 8 l = R := ⟨_, rfl⟩
  obtain ⟨L, hL⟩ : ∃ L, lettersL h 8 l = L := ⟨_, rfl⟩
  obtain ⟨lE, hE⟩ : ∃ lE, l.drop N = lE := ⟨_, rfl⟩
  rw [hN] at HL HH H5
  rw [hM] at HRL H5
  rw [hT] at H1
  rw [hI] at H2
  rw [hR] at H3 HRN HRLEN
  rw [hL] at H4 HLB
  rw [hE] at H5
  rw [hN, hT, hI, hR, hL, hE]
  obtain ⟨t1, t2, t3, t4⟩ := hms
  clear hm hl hb hb2 hb3 hb4 n2 n3 n4 n5 e2 e3 e4 e5 hN hM hT hI hR hL hE HLEN ho
  have K0 := Lib.hid (Bk.start (h := h) hr h0)
  have HB := Lib.hid hB
  clear hr hB h0
  unfold hdVal at HM HL HRL ⊢
  obtain ⟨X, hX⟩ : ∃ X, (w.alloc (.cells #[.int .u8 h.version, .int .i64 h.uts, .int .i64 h.stds, .int .i64 h.leaps, .int .i64 h.times, .int .i64 h.types, .int .i64 h.letters] 60)).alloc (.cells #[.slice none 0 0, .slice none 0 0, .slice none 0 0, .string ⟨#[]⟩] 26) = X := ⟨_, rfl⟩
  rw [hX] at K0
  have q0 := K0.out.d0
  have q1 := K0.out.d1
  have q2 := K0.out.d2
  have q3 := K0.out.d3
  have q4 := K0.out.d4
  have q5 := K0.out.d5
  have q6 := K0.out.d6
  have i4 : (0 : Int) ≤ (h.times : Int) := by omega
  have i5 : (0 : Int) ≤ (h.types : Int) := by omega
  have i6 : (0 : Int) ≤ (h.letters : Int) := by omega
  go_enter Try.func45, Try.ntmps45
  go_wp2_with (first
    | (go_at_call 54; (try rw [hX]); refine (HM.out _).mono ?_; clear HM; rintro e V1 ⟨rfl, hb⟩; have K1 := Lib.hid (K0.out.step hb (by have := K0.out.rb.lt; omega)); clear hb hX q0 q1 q2 q3 q4 q5 q6; have q0 := K1.out.d0; have q1 := K1.out.d1; have q2 := K1.out.d2; have q3 := K1.out.d3; have q4 := K1.out.d4; have q5 := K1.out.d5; have q6 := K1.out.d6)
    | (go_at_call 23; refine (HL.out _).mono ?_; clear HL; rintro e V2 ⟨rfl, hb⟩; have K2 := Lib.hid (K1.out.step hb (by have := K1.out.rb.lt; omega)); clear hb q0 q1 q2 q3 q4 q5 q6)
    | (go_at_call 46; refine (HH.out _ K2.out.rd).mono ?_; clear HH; rintro e V ⟨rfl, rfl⟩; have K3 : Hid (∀ o, Bk w (V2.alloc o) B g h m l) := Lib.hid (fun o => K2.out.alloc o); have q4 : ∀ o, (V2.alloc o).cell? ⟨w.heap.size, 4, none⟩ = some (.int .i64 h.times) := (fun o => (K3.out o).d4))
    | (go_at_call 52; refine (H1.out _ (K3.out _).rd).mono ?_; clear H1; rintro e V4 ⟨A4, c4, rfl, ho1, hr1, hg1⟩; have Z3 := Lib.hid ((ZnBox.new V2 V2.heap.size rfl (.slice none 0 0) (.slice none 0 0) (.slice none 0 0) (.string ⟨#[]⟩) 26).gb hg1 (by have := K2.out.rb.lt; have := K2.out.lt; omega)); have O4 := Lib.hid ho1; have K4 := Lib.hid ((K3.out _).read hg1 hr1 HB.out); clear q4 ho1 hr1 hg1; have G2 : Hid (w.heap.size + 2 ≤ V2.heap.size) := Lib.hid K2.out.rb.lt; have z1 := Z3.out.c1; have f1 := Z3.out.fr 1; have q4 : ∀ u, (V4.setCell ⟨V2.heap.size, 1, none⟩ u).cell? ⟨w.heap.size, 4, none⟩ = some (.int .i64 h.times) := (fun u => (K4.out.set G2.out 1 u).d4))
    | (go_at_call 57; refine (H2.out _ (K4.out.set G2.out 1 _).rd).mono ?_; clear H2; rintro e V6 ⟨A6, c6, rfl, ho1, hr1, hg1⟩; have Z6 := Lib.hid ((Z3.out.set1 (.slice A4 h.times c4)).gb hg1 (by have := G2.out; have := K2.out.lt; omega)); have O5 := Lib.hid ((O4.out.set (by simp) 1 (.slice A4 h.times c4)).other hg1 (by have := G2.out; have := K2.out.lt; simp; omega)); have O6 := Lib.hid ho1; have K6 := Lib.hid ((K4.out.set G2.out 1 _).read hg1 hr1 HB.out); clear q4 z1 f1 ho1 hr1 hg1; have z2 := Z6.out.c2; have f2 := Z6.out.fr 2; have q5 : ∀ u, (V6.setCell ⟨V2.heap.size, 2, none⟩ u).cell? ⟨w.heap.size, 5, none⟩ = some (.int .i64 h.types) := (fun u => (K6.out.set G2.out 2 u).d5))
    | (go_at_call 59; refine (H3.out _ (K6.out.set G2.out 2 _).rd).mono ?_; clear H3; rintro e V8 ⟨A8, c8, rfl, ho1, hr1, hg1⟩; have HSV : Hid (V2.heap.size < V6.heap.size) := Lib.hid Z6.out.lt; have HgG : Hid (g < V2.heap.size) := Lib.hid (by have := G2.out; have := K2.out.lt; omega); have HSW : Hid (V2.heap.size < V4.heap.size) := Lib.hid Z3.out.lt; have Z8 := Lib.hid ((Z6.out.set2 (.slice A6 h.times c6)).gb hg1 (by have := HgG.out; omega)); have O7 := Lib.hid ((O5.out.set (by simp) 2 (.slice A6 h.times c6)).other hg1 (by have := HgG.out; simp; omega)); have O8 := Lib.hid ((O6.out.set (by have := HSW.out; simpa using this) 2 (.slice A6 h.times c6)).other hg1 (by have := HgG.out; have := HSW.out; simp; omega)); have O9 := Lib.hid ho1; have K8 := Lib.hid ((K6.out.set G2.out 2 _).read hg1 hr1 HB.out); clear q5 z2 f2 ho1 hr1 hg1 O4 O5 O6; have q6 := K8.out.d6)
    | (go_at_call 47; refine (H4.out _ K8.out.rd).mono ?_; clear H4; rintro e V9 ⟨A9, c9, rfl, hs1, hr1, hg1⟩; have Z9 := Lib.hid (Z8.out.gb hg1 (by have := HgG.out; omega)); have P1 := Lib.hid (O7.out.other hg1 (by have := HgG.out; simp; omega)); have P2 := Lib.hid (O8.out.other hg1 (by have := HgG.out; have := HSW.out; simp; omega)); have P3 := Lib.hid (O9.out.other hg1 (by have := HgG.out; have := HSV.out; simp; omega)); have S9 := Lib.hid hs1; have K9 := Lib.hid (K8.out.read hg1 hr1 HB.out); clear q6 hs1 hr1 hg1 O7 O8 O9 Z3 Z6 Z8 K0 K1 K2 K3 K4 K6 K8)
    | fail)
  obtain ⟨G, hG⟩ : ∃ G, V2.heap.size = G := ⟨_, rfl⟩
  have hP1 := P1.out; have hP2 := P2.out; have hP3 := P3.out
  rw [show (V2.alloc (.cells #[.slice none 0 0, .slice none 0 0, .slice none 0 0, .string ⟨#[]⟩] 26)).heap.size = G + 1 by simp [hG]] at hP1
  rw [hG] at G2 HSV HgG HSW Z9 hP2 hP3 ⊢
  have Q1 := Lib.hid hP1
  have Q2 := Lib.hid (hP2.lower (b := G + 1) (by have := HSW.out; simp; omega))
  have Q3 := Lib.hid (hP3.lower (b := G + 1) (by have := HSV.out; simp; omega))
  clear P1 P2 P3 hP1 hP2 hP3 HSV HSW hG
  have HGV : Hid (G < V9.heap.size) := Lib.hid Z9.out.lt
  have HBG : Hid (B ≤ G) := Lib.hid (by have := K9.out.rd.lo; have := HgG.out; omega)
  go_loopw [56] (fun i wr => ∃ (k : Nat) (A : Option Addr) (c : Nat) (ts : List Ty), k ≤ h.types ∧ i = .int .i64 k ∧ ts.length = k ∧ tysOf L (R.take k) = some ts ∧ ZnBox wr G (.slice A k c) (.slice A4 h.times c4) (.slice A6 h.times c6) (.string ⟨#[]⟩) ∧ OwnY wr V9.heap.size (.slice A k c) ts ∧ V9.grownBy wr (some G)) (fun i _ => h.types - (intOf i).toNat)
  case atStart => exact ⟨0, none, 0, [], Nat.zero_le _, rfl, rfl, rfl, Z9.out, World.ownsRow_nil _ _ _ _, World.grownBy.refl _ _⟩
  case round =>
    obtain ⟨k, A, c, ts, hk, rfl, hts, htk, hzb, hoy, hgr⟩ := hrel
    have HTS := Lib.hid hts; have HTK := Lib.hid htk; have HZ := Lib.hid hzb; have HOY := Lib.hid hoy; have HG := Lib.hid hgr
    have KR := Lib.hid (K9.out.own hgr G2.out)
    clear hts htk hzb hoy
    by_cases hlt : k < h.types
    · have hk0 : (0 : Int) ≤ (k : Int) := by omega
      have hk1 : (k : Int) < (h.types : Int) := by omega
      obtain ⟨r, hr⟩ : ∃ r, R[k]? = some r := ⟨_, List.getElem?_eq_getElem (by rw [HRLEN.out]; omega)⟩
      have HR := Lib.hid hr
      obtain ⟨p, hp⟩ := HRN.out r (List.mem_of_getElem? hr)
      obtain ⟨g1, off, c1, hv, hg1, a0, a1, a2⟩ := ((Q3.out.other hgr (Nat.lt_succ_self _)).sl (Nat.le_refl _)).rw hr
      rw [HRLEN.out] at hv
      injection hv with ea eb ec
      subst ea; subst ec
      clear eb hr hgr
      obtain ⟨o, d, place⟩ := r
      simp only at hp a0 a1 a2
      subst hp
      have HLA : Hid (∀ ob, Calls Try.prog 61 #[.slice A9 h.letters c9, .int .i64 p] (wr.alloc ob) fun e w' => (∃ S ok, e = .returned (.tuple #[.string S, .bool ok]) ∧ ok = (lettersV L p).isSome ∧ ∀ t, lettersV L p = some t → S = strOfNums (natsI t)) ∧ Below (wr.alloc ob).heap.size (wr.alloc ob) w') := Lib.hid fun ob =>
        lettersAt_any p L B h.letters c9 A9 m (wr.alloc ob) (((S9.out.grown HG.out HBG.out (by have := HGV.out; have := HBG.out; omega))).below ((Below.refl wr.heap.size wr).alloc (Nat.le_refl _) ob) (by have := KR.out.rd.lt; have := KR.out.rd.lo; omega)) (by have := KR.out.rd.lt; have := KR.out.rd.lo; simp; omega) HLB.out (by omega) (by simp) (KR.out.alloc ob).gl
      cases hlv : lettersV L p with
      | none =>
        have HN : Hid (tysOf L R = none) := Lib.hid (tysOf_none HR.out (by unfold tyOf; simp [hlv]))
        rw [hlv] at HLA
        clear hlv
        go_wp2_with (first
          | (go_at_call 61; refine (HLA.out _).mono ?_; clear HLA; rintro e V ⟨⟨S', ok, rfl, hok, _⟩, hbe⟩; have hok2 : ok = false := hok; subst hok2; clear hok a0 a1 a2; have KV := Lib.hid ((KR.out.alloc _).step hbe (by have := KR.out.rb.lt; simp; omega)); have k0 := KV.out.rb.c0; have k1 := KV.out.rb.c1; have k2 := KV.out.rb.c2; have k3 := KV.out.rb.c3; have f0 := KV.out.rb.fr 0; have f1 := KV.out.rb.fr 1; have f2 := KV.out.rb.fr 2; have f3 := KV.out.rb.fr 3; have HS1 := KV.out.rb.lt; clear hbe)
          | fail)
        exact bodyPost_ret (v := .tuple #[noZone, .bool false]) (by simp [results, Try.results45, go_sem, noZone, k0, k1, k2, k3]) rfl ⟨fun _ => rfl, fun tys ht => (by rw [HN.out] at ht; cases ht), gb_below KV.out.gb (((((Below.refl w.heap.size V).setCell (Nat.le_succ _) _).setCell (Nat.le_succ _) _).setCell (Nat.le_succ _) _).setCell (Nat.le_succ _) _)⟩
      | some tx =>
        rw [hlv] at HLA
        by_cases hd : d ≤ 1
        · obtain ⟨bl, hbl⟩ : ∃ bl, decide (d = 1) = bl := ⟨_, rfl⟩
          have hbl2 : (d == 1) = bl := by rw [← hbl]; rfl
          have HTY : Hid (tyOf L ⟨o, d, p⟩ = some ⟨o, bl, strOfNums (natsI tx)⟩) := Lib.hid (by unfold tyOf; simp only; rw [if_pos hd, Int.toNat_natCast, hlv, hbl]; rfl)
          have hd2 : ¬ (1 : Int) < d := by omega
          obtain ⟨S, hS⟩ : ∃ S, strOfNums (natsI tx) = S := ⟨_, rfl⟩
          rw [hS] at HTY
          have HS := Lib.hid hS
          clear hlv hS hd
          go_wp2_with (first
            | (go_at_call 61; refine (HLA.out _).mono ?_; clear HLA; rintro e V ⟨⟨S', ok, rfl, hok, hSS⟩, hbe⟩; have hok2 : ok = true := hok; subst hok2; have hS2 : S' = S := ((hSS tx rfl).trans HS.out); subst hS2; clear hok hSS a0 a1 a2; have HBE := Lib.hid hbe; have KV := Lib.hid ((KR.out.alloc _).step hbe (by have := KR.out.rb.lt; simp; omega)); have ZV := Lib.hid ((HZ.out.below ((Below.refl wr.heap.size wr).alloc (Nat.le_refl _) _) HZ.out.lt).below hbe (by have := HZ.out.lt; simp; omega)); have x0 := cells_at wr.heap.size hbe (by simp) (cell_new wr _ _ _ 0 _ rfl rfl); have x1 := cells_at wr.heap.size hbe (by simp) (cell_new wr _ _ _ 1 _ rfl rfl); have z0 := ZV.out.c0; have OV := Lib.hid ((HOY.out.alloc _).keep hbe); clear hbe)
            | (at_builtin; refine plain_append_ty (.tmp 76) (.tmp 84) rfl rfl V9.heap.size (k + 1) _ ts ⟨o, bl, S'⟩ V.heap.size rfl rfl (OV.out.alloc _) (three_cells V ⟨o, bl, S'⟩ _ _ rfl) (by rw [HTS.out]; omega) (by have := HBE.out.size; have := HG.out.size; simp at *; omega) (by rw [HTS.out]) ?_; intro A7 c7 V7 hO hG; have HO7 := Lib.hid hO; have HB7 := Lib.hid (growY_below (OV.out.alloc _) hG (Nat.le_refl _) (by have := HBE.out.size; have := HG.out.size; simp at *; omega)); have ZV7 := Lib.hid ((ZV.out.below ((Below.refl V.heap.size V).alloc (Nat.le_refl _) _) ZV.out.lt).below HB7.out HGV.out); have z7 := ZV7.out.c0; have f7 := ZV7.out.fr 0; clear hO hG z0 x0 x1)
            | fail)
          refine ⟨⟨k + 1, A7, c7, ts ++ [⟨o, bl, S'⟩], hlt, by go_num, by rw [List.length_append, HTS.out]; rfl, by rw [take_one HR.out]; exact tysOf_snoc HTK.out HTY.out, ZV7.out.set0 _, HO7.out.set HGV.out _ _, ?_⟩, by simp [intOf]; omega⟩
          have hbl7 : Below V9.heap.size wr V7 := (((Below.refl V9.heap.size wr).alloc HG.out.size _).trans (HBE.out.mono (by have := HG.out.size; simp; omega))).trans (((Below.refl V9.heap.size V).alloc (by have := HBE.out.size; have := HG.out.size; simp at *; omega) _).trans HB7.out)
          exact (gb_below HG.out hbl7).trans (grown_set V7 G 0 _)
        · have HN : Hid (tysOf L R = none) := Lib.hid (tysOf_none HR.out (by unfold tyOf; simp [hd]))
          have hd2 : (1 : Int) < d := by omega
          clear hlv hd
          go_wp2_with (first
            | (go_at_call 61; refine (HLA.out _).mono ?_; clear HLA; rintro e V ⟨⟨S', ok, rfl, hok, _⟩, hbe⟩; have hok2 : ok = true := hok; subst hok2; clear hok a0 a1 a2; have KV := Lib.hid ((KR.out.alloc _).step hbe (by have := KR.out.rb.lt; simp; omega)); have x1 := cells_at wr.heap.size hbe (by simp) (cell_new wr _ _ _ 1 _ rfl rfl); have k0 := KV.out.rb.c0; have k1 := KV.out.rb.c1; have k2 := KV.out.rb.c2; have k3 := KV.out.rb.c3; have f0 := KV.out.rb.fr 0; have f1 := KV.out.rb.fr 1; have f2 := KV.out.rb.fr 2; have f3 := KV.out.rb.fr 3; have HS1 := KV.out.rb.lt; clear hbe)
            | fail)
          exact bodyPost_ret (v := .tuple #[noZone, .bool false]) (by simp [results, Try.results45, go_sem, noZone, k0, k1, k2, k3]) rfl ⟨fun _ => rfl, fun tys ht => (by rw [HN.out] at ht; cases ht), gb_below KV.out.gb (((((Below.refl w.heap.size V).setCell (Nat.le_succ _) _).setCell (Nat.le_succ _) _).setCell (Nat.le_succ _) _).setCell (Nat.le_succ _) _)⟩
    · have hk1 : ¬ (k : Int) < (h.types : Int) := by omega
      obtain rfl : k = h.types := by omega
      clear hgr
      have HTL : Hid (tysOf L R = some ts) := Lib.hid (by have := HTK.out; rwa [List.take_of_length_le (by rw [HRLEN.out]; exact Nat.le_refl _)] at this)
      have q0 := KR.out.d0
      have q1 := KR.out.d1
      have q2 := KR.out.d2
      have q3 := KR.out.d3
      have q4 := KR.out.d4
      have q5 := KR.out.d5
      have q6 := KR.out.d6
      go_wp2_with (first
        | (go_at_call 41; refine (HRL.out _).mono ?_; clear HRL; rintro e VA ⟨rfl, hb⟩; have KA := Lib.hid (KR.out.step hb (by have := KR.out.rb.lt; omega)); have ZA := Lib.hid (HZ.out.below hb HZ.out.lt); have OA := Lib.hid (HOY.out.keep hb); have T1 := Lib.hid ((Q1.out.other HG.out (Nat.lt_succ_self _)).keep hb); have T2 := Lib.hid ((Q2.out.other HG.out (Nat.lt_succ_self _)).keep hb); clear hb q0 q1 q2 q3 q4 q5 q6)
        | (go_at_call 47; refine (H5.out _ KA.out.rd).mono ?_; clear H5; rintro e VB ⟨⟨v, rfl⟩, hr, hg⟩; have ZB := Lib.hid (ZA.out.gb hg (by have := HgG.out; omega)); have KB := Lib.hid (KA.out.read hg hr HB.out); have OB : Hid (ZnOwn VB (w.heap.size + 2) ⟨ts, T, I, ⟨#[]⟩⟩ (.slice A h.types c) (.slice A4 h.times c4) (.slice A6 h.times c6)) := Lib.hid ⟨(OA.out.other hg (by have := HgG.out; have := HGV.out; omega)).lower (by have := G2.out; have := HGV.out; omega), (T1.out.other hg (by have := HgG.out; omega)).lower (by have := G2.out; omega), (T2.out.other hg (by have := HgG.out; omega)).lower (by have := G2.out; omega)⟩; clear hr hg; have z0 := ZB.out.c0; have z1 := ZB.out.c1; have z2 := ZB.out.c2; have z3 := ZB.out.c3; have k0 := KB.out.rb.c0; have k1 := KB.out.rb.c1; have k2 := KB.out.rb.c2; have k3 := KB.out.rb.c3; have f0 := KB.out.rb.fr 0; have f1 := KB.out.rb.fr 1; have f2 := KB.out.rb.fr 2; have f3 := KB.out.rb.fr 3; have HS1 := KB.out.rb.lt)
        | fail)
      have hbz : Below (w.heap.size + 1) VB ((((VB.setCell ⟨w.heap.size + 1, 0, none⟩ (.slice A h.types c)).setCell ⟨w.heap.size + 1, 1, none⟩ (.slice A4 h.times c4)).setCell ⟨w.heap.size + 1, 2, none⟩ (.slice A6 h.times c6)).setCell ⟨w.heap.size + 1, 3, none⟩ (.string ⟨#[]⟩)) := ((((Below.refl (w.heap.size + 1) VB).setCell (Nat.le_refl (w.heap.size + 1)) _).setCell (Nat.le_refl (w.heap.size + 1)) _).setCell (Nat.le_refl (w.heap.size + 1)) _).setCell (Nat.le_refl (w.heap.size + 1)) _
      have HBZ := Lib.hid hbz
      clear hbz
      exact bodyPost_ret (v := .tuple #[.agg #[.slice A h.types c, .slice A4 h.times c4, .slice A6 h.times c6, .string ⟨#[]⟩], .bool true]) (by simp [results, Try.results45, go_sem, k0, k1, k2, k3]) rfl ⟨fun hn => (by rw [HTL.out] at hn; cases hn), fun tys ht => ⟨_, _, _, rfl, (by
        have e : ts = tys := by have := HTL.out.symm.trans ht; injection this
        subst e
        exact (((OB.out.set (Nat.lt_succ_self _) 0 _).set (Nat.lt_succ_self _) 1 _).set (Nat.lt_succ_self _) 2 _).set (Nat.lt_succ_self _) 3 _), KB.out.rd.below HBZ.out (by have := KB.out.lt; omega)⟩, gb_below KB.out.gb (HBZ.out.mono (Nat.le_succ _))⟩
end Go.Proofs.Ytohpdpcjhmopbaa.Tz
