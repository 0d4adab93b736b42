/- level: bytes read as a version; numbers taken at once. -/
import Derived.Test.YtmjkgibeljbloaaLvN
namespace Go.Proofs.Ytmjkgibeljbloaa
open Go.RowKit
set_option maxRecDepth 100000

abbrev St := Option (List UInt8)
def takeF (st : St) : Fl × St :=
  (⟨((takeN st).1 : Nat), ((takeN (takeN st).2).1 : Nat), ((takeN (takeN (takeN st).2).2).1 : Nat), (takeB (takeN (takeN (takeN st).2).2).2).1, (takeB (takeB (takeN (takeN (takeN st).2).2).2).2).1⟩,
    (takeB (takeB (takeN (takeN (takeN st).2).2).2).2).2)
def rdFs : Nat → St → List Fl → List Fl × St
  | 0, st, acc => (acc, st)
  | _ + 1, none, acc => (acc, none)
  | m + 1, some l, acc => rdFs m (takeF (some l)).2 (acc ++ [(takeF (some l)).1])
/-- What bytes read as. -/
def readV (b : List UInt8) : (Int × List Fl) × St :=
  ((((takeN (some b)).1 : Nat), (rdFs (takeN (takeN (some b)).2).1 (takeN (takeN (some b)).2).2 []).1), (rdFs (takeN (takeN (some b)).2).1 (takeN (takeN (some b)).2).2 []).2)
/-- P11.1: bytes that are a version. -/
def goodV (b : List UInt8) : Prop := isV (readV b).1.1 (readV b).1.2 ∧ encV (readV b).1.1 (readV b).1.2 = b
noncomputable instance (b : List UInt8) : Decidable (goodV b) := Classical.propDecidable _
noncomputable def decV (b : List UInt8) : Int × List Fl := if goodV b then (readV b).1 else (0, [])
noncomputable def decC (b : List UInt8) : Nat := if goodV b then 0 else 3

theorem clampI {v : Int} (h0 : 0 ≤ v) (h1 : v ≤ 4611686018427387904) : ((clamp v : Nat) : Int) = v := by unfold clamp; omega
theorem takeF_enc {f : Fl} {n : Int} (h : fitF f n) (hn : n ≤ 1099511627776) (rest : List UInt8) : takeF (some (encF f ++ rest)) = (f, some rest) := by
  obtain ⟨a1, a2, a3, a4, a5, a6, a7, a8, -⟩ := h
  have e : encF f ++ rest = enc7 (clamp f.id) ++ (enc7 (clamp f.lev) ++ (enc7 (clamp f.size) ++ (enc7 f.first.length ++ f.first ++ (enc7 f.last.length ++ f.last ++ rest)))) := by
    unfold encF lb
    simp only [List.append_assoc]
  have t1 := takeN_enc (clamp f.id) (enc7 (clamp f.lev) ++ (enc7 (clamp f.size) ++ (enc7 f.first.length ++ f.first ++ (enc7 f.last.length ++ f.last ++ rest)))) (clamp_le _)
  have t2 := takeN_enc (clamp f.lev) (enc7 (clamp f.size) ++ (enc7 f.first.length ++ f.first ++ (enc7 f.last.length ++ f.last ++ rest))) (clamp_le _)
  have t3 := takeN_enc (clamp f.size) (enc7 f.first.length ++ f.first ++ (enc7 f.last.length ++ f.last ++ rest)) (clamp_le _)
  have t4 := takeB_enc f.first (enc7 f.last.length ++ f.last ++ rest) (by have := a7.2; omega)
  have t5 := takeB_enc f.last rest (by have := a8.2; omega)
  unfold takeF
  rw [e, t1]
  simp only
  rw [t2]
  simp only
  rw [t3]
  simp only
  rw [t4]
  simp only
  rw [t5]
  simp only
  rw [clampI (by omega) (by omega), clampI (by omega) (by omega), clampI (by omega) (by omega)]
theorem rdFs_enc {n : Int} (hn : n ≤ 1099511627776) (rest : List UInt8) : ∀ (L acc : List Fl), (∀ c ∈ L, fitF c n) → rdFs L.length (some (L.flatMap encF ++ rest)) acc = (acc ++ L, some rest)
  | [], acc, _ => by simp [rdFs]
  | f :: L, acc, h => by
    have e : (f :: L).flatMap encF ++ rest = encF f ++ (L.flatMap encF ++ rest) := by rw [List.flatMap_cons, List.append_assoc]
    rw [e, List.length_cons]
    show rdFs L.length (takeF (some (encF f ++ (L.flatMap encF ++ rest)))).2 (acc ++ [(takeF (some (encF f ++ (L.flatMap encF ++ rest)))).1]) = _
    rw [takeF_enc (h f List.mem_cons_self) hn]
    simp only
    rw [rdFs_enc hn rest L (acc ++ [f]) (fun c hc => h c (List.mem_cons_of_mem _ hc)), List.append_assoc]
    rfl
theorem read_enc {n : Int} {L : List Fl} (h : isV n L) : readV (encV n L) = ((n, L), some []) := by
  have e : encV n L = enc7 (clamp n) ++ (enc7 L.length ++ (L.flatMap encF ++ [])) := by
    unfold encV
    simp only [List.append_assoc, List.append_nil]
  have hl := h.2.2.1
  have t1 := takeN_enc (clamp n) (enc7 L.length ++ (L.flatMap encF ++ [])) (clamp_le _)
  have t2 := takeN_enc L.length (L.flatMap encF ++ []) (by omega)
  unfold readV
  rw [e, t1]
  simp only
  rw [t2]
  simp only
  rw [rdFs_enc h.2.1 [] L [] h.fit, clampI (by have := h.1; omega) (by have := h.2.1; omega)]
  rfl
theorem good_whole {b : List UInt8} (h : goodV b) : (readV b).2 = some [] := by
  have := read_enc h.1
  rw [h.2] at this
  rw [this]
theorem good_enc {n : Int} {L : List Fl} (h : isV n L) : goodV (encV n L) := by
  unfold goodV
  rw [read_enc h]
  exact ⟨h, rfl⟩
theorem dec_enc {n : Int} {L : List Fl} (h : isV n L) : decV (encV n L) = (n, L) ∧ decC (encV n L) = 0 := by
  unfold decV decC
  rw [if_pos (good_enc h), if_pos (good_enc h), read_enc h]
  exact ⟨rfl, rfl⟩
theorem takeN_w (st : St) : mS (takeN st).2 ≤ mS st := by
  have := takeN_len st
  cases st with
  | none => exact Nat.le_refl _
  | some l =>
    cases h2 : (takeN (some l)).2 with
    | none => exact Nat.zero_le _
    | some l1 => rw [h2] at this; exact Nat.succ_le_succ this
theorem takeN_s (l : List UInt8) : mS (takeN (some l)).2 ≤ l.length := by
  cases h2 : (takeN (some l)).2 with
  | none => exact Nat.zero_le _
  | some l1 =>
    have : takeN (some l) = ((takeN (some l)).1, some l1) := by rw [← h2]
    exact takeN_lt this
theorem takeB_w (st : St) : (takeB st).1.length + (if st.isSome then 1 else 0) + mS (takeB st).2 ≤ mS st := by
  cases st with
  | none => rw [takeB_none]; exact Nat.le_refl _
  | some l =>
    have h1 := takeB_sum (some l)
    have e0 : szO (some l) = l.length := rfl
    have e1 : mS (some l) = l.length + 1 := rfl
    rw [e0] at h1
    rw [e1]
    simp only [Option.isSome_some, if_true]
    cases h2 : (takeB (some l)).2 with
    | none => show _ + 1 + 0 ≤ _; omega
    | some l1 =>
      have := takeB_lt2 h2
      show _ + 1 + (l1.length + 1) ≤ _
      omega
theorem takeB_w0 (st : St) : (takeB st).1.length + mS (takeB st).2 ≤ mS st := by have := takeB_w st; omega
theorem takeF_w (l : List UInt8) : 1 + (takeF (some l)).1.first.length + (takeF (some l)).1.last.length + mS (takeF (some l)).2 ≤ mS (some l) := by
  have h1 := takeN_s l
  have h2 := takeN_w (takeN (some l)).2
  have h3 := takeN_w (takeN (takeN (some l)).2).2
  have h4 := takeB_w0 (takeN (takeN (takeN (some l)).2).2).2
  have h5 := takeB_w0 (takeB (takeN (takeN (takeN (some l)).2).2).2).2
  have e1 : mS (some l) = l.length + 1 := rfl
  rw [e1]
  unfold takeF
  simp only
  omega
theorem takeN_le' (st : St) : (takeN st).1 ≤ 4611686018427387904 := by
  cases st with
  | none => exact Nat.zero_le _
  | some l =>
    unfold takeN takeNum
    simp only
    split
    · exact Nat.zero_le _
    · rename_i n' t' hh
      exact (numF_lt _ _ _ _ _ _ hh).2
theorem whole_iff (st : St) : isWhole st = true ↔ st = some [] := by
  cases st with
  | none => simp [isWhole]
  | some l => simp [isWhole]
theorem wF_snoc1 (L : List Fl) (f : Fl) : wF (L ++ [f]) = wF L + (1 + f.first.length + f.last.length) := by rw [wF_append, wF_cons]; simp [wF]

set_option maxHeartbeats 4000000 in
theorem equal_any {w : World} {S T : Nat → Prop} {u v : Value} {l m : List UInt8} (h : Bs w S u l) (h' : Bs w T v m) :
    Calls Try.prog 46 #[u, v] w fun e w' => e = .returned (.bool (decide (l = m))) ∧ w' = w := by
  have c1 := run_conv (P := Try.prog) Try.underlying26 Try.underlying5 Try.underlying9 h
  have c2 := run_conv (P := Try.prog) Try.underlying26 Try.underlying5 Try.underlying9 h'
  have hb : (l == m) = decide (l = m) := by rw [Bool.eq_iff_iff, beq_iff_eq, decide_eq_true_eq]
  clear h h'
  go_enter Try.func46, Try.ntmps46
  go_wp2_with fail
  go_ret
  exact ⟨by rw [← hb]; rfl, rfl⟩
theorem add_one' (ad : Addr) : ad.add 1 = ⟨ad.block, ad.off + 1, none⟩ := by simp [Addr.add]
theorem add_two' (ad : Addr) : ad.add 2 = ⟨ad.block, ad.off + 2, none⟩ := by simp [Addr.add]
set_option maxHeartbeats 8000000 in
theorem rdnums_v {w : World} {b gc pd : Nat} {S T : Nat → Prop} {v y : Value} {st : Option (List UInt8)} (hrd : Rd w b S v st) {a0 a1 vd : Value} (hc : Blk w gc 24 #[a0, a1]) (hd : Blk w pd 3 #[vd])
    (hy : Sl w T y [.pointer (some ⟨gc, 0, none⟩), .pointer (some ⟨pd, 0, none⟩)]) (hT : ∀ k, k < w.heap.size → T k → ¬ (k = b ∨ k = gc ∨ k = pd)) (hS : ∀ k, S k → k ≠ gc ∧ k ≠ pd) (hab : gc ≠ b) (hcb : pd ≠ b) (hac : gc ≠ pd) :
    Calls Try.prog 42 #[.pointer (some ⟨b, 0, none⟩), y] w fun e w' => e = .returned (.tuple #[]) ∧ ∃ v', Rd w' b S v' (takeN (takeN st).2).2 ∧
      Blk w' gc 24 #[.int .i64 (takeN st).1, a1] ∧ Blk w' pd 3 #[.int .i64 (takeN (takeN st).2).1] ∧ Mod (fun k => k = b ∨ k = gc ∨ k = pd) w w' := by
  obtain ⟨A, c, rfl, h1, h2, h3, h4⟩ := hy
  simp only [List.length_cons, List.length_nil, Nat.zero_add, Nat.reduceAdd]
  go_enter Try.func42, Try.ntmps42
  go_wp2
  go_loopw [9] (fun i wr => ∃ (k : Nat) (v' ua uc : Value) (s : Option (List UInt8)), k ≤ 2 ∧ i = .int .i64 k ∧ Rd wr b S v' s ∧ Blk wr gc 24 #[ua, a1] ∧ Blk wr pd 3 #[uc] ∧ Mod (fun k => k = b ∨ k = gc ∨ k = pd) w wr ∧
      Hid ((k = 0 → s = st) ∧ (k = 1 → s = (takeN st).2) ∧ (k = 2 → s = (takeN (takeN st).2).2) ∧ (0 < k → ua = .int .i64 (takeN st).1) ∧ (k = 2 → uc = .int .i64 (takeN (takeN st).2).1))) (fun i _ => 2 - (intOf i).toNat)
  case atStart => exact ⟨0, v, a0, vd, st, by omega, rfl, hrd, hc, hd, Mod.refl _ _, ⟨fun _ => rfl, fun h => by omega, fun h => by omega, fun h => by omega, fun h => by omega⟩⟩
  case round =>
    obtain ⟨k, v', ua, uc, s, hk, rfl, hr, hba, hbc, hm, hf⟩ := hrel
    by_cases hlt : k < 2
    · have hone : ∀ {w2 : World} {v2 : Value}, Rd w2 b S v2 (takeN s).2 → Mod (fun k => k = b) wr w2 → Blk w2 gc 24 #[ua, a1] ∧ Blk w2 pd 3 #[uc] ∧ Mod (fun k => k = b ∨ k = gc ∨ k = pd) w w2 := fun _ g2 =>
        ⟨hba.mod g2 hab, hbc.mod g2 hcb, hm.then_ g2 (fun _ _ h => .inl h)⟩
      rcases (show k = 0 ∨ k = 1 by omega) with rfl | rfl
      · obtain ⟨ad, rfl, hs, hcell⟩ := (h4.mod hm hT) 0 _ rfl
        have hc0 : wr.cell? ad = some (.pointer (some ⟨gc, 0, none⟩)) := hcell
        have hs0 := hf.out.1 rfl
        subst hs0
        clear hcell
        go_wp2_with fail
        refine (num_any hr).mono ?_; rintro e w2 ⟨v2, rfl, g1, g2, g3⟩
        obtain ⟨q1, q2, q3⟩ := hone g1 g2
        have hca : _ = some _ := Blk.cell q1 0
        have hfa := q1.frozen 0
        go_wp2_with fail
        have hset : ∀ u, Mod (fun k => k = gc) w2 (w2.setCell ⟨gc, 0, none⟩ u) := fun u => (Mod.refl (fun k => k = gc) w2).setCell (fun _ => rfl) u
        exact ⟨⟨1, v2, _, uc, (takeN s).2, by omega, rfl, g1.mod (hset _) (fun h => hab h.symm) (fun k _ hk e => (hS k hk).1 e), q1.set_ 0 _, q2.far (p := ⟨gc, 0, none⟩) (fun e => hac e.symm) _, q3.then_ (hset _) (fun _ _ h => .inr (.inl h)),
          ⟨fun h => by omega, fun _ => rfl, fun h => by omega, fun _ => rfl, fun h => by omega⟩⟩, by simp [intOf]⟩
      · obtain ⟨ad, rfl, hs, hcell⟩ := (h4.mod hm hT) 1 _ rfl
        rw [add_one' ad] at hcell
        have hs0 := hf.out.2.1 rfl
        have ha0 := hf.out.2.2.2.1 (by omega)
        subst hs0
        subst ha0
        go_wp2_with fail
        refine (num_any hr).mono ?_; rintro e w2 ⟨v2, rfl, g1, g2, g3⟩
        obtain ⟨q1, q2, q3⟩ := hone g1 g2
        have hcc := q2.c0
        have hfc := q2.frozen 0
        go_wp2_with fail
        have hset : ∀ u, Mod (fun k => k = pd) w2 (w2.setCell ⟨pd, 0, none⟩ u) := fun u => (Mod.refl (fun k => k = pd) w2).setCell (fun _ => rfl) u
        exact ⟨⟨2, v2, _, _, _, by omega, rfl, g1.mod (hset _) (fun h => hcb h.symm) (fun k _ hk e => (hS k hk).2 e), q1.far (p := ⟨pd, 0, none⟩) hac _, q2.set_ 0 _, q3.then_ (hset _) (fun _ _ h => .inr (.inr h)),
          ⟨fun h => by omega, fun h => by omega, fun _ => rfl, fun _ => rfl, fun _ => rfl⟩⟩, by simp [intOf]⟩
    · obtain rfl : k = 2 := by omega
      have hs0 := hf.out.2.2.1 rfl
      have ha0 := hf.out.2.2.2.1 (by omega)
      have hc0 := hf.out.2.2.2.2 rfl
      subst hs0
      subst ha0
      subst hc0
      go_wp2_with fail
      go_end0
      exact ⟨rfl, ⟨_, hr⟩, hba, hbc, hm⟩
set_option maxHeartbeats 8000000 in
theorem rdnums_f {w : World} {b gc : Nat} {S T : Nat → Prop} {v y : Value} {st : Option (List UInt8)} (hrd : Rd w b S v st) {a0 a1 a2 a3 a4 : Value} (hc : Blk w gc 48 #[a0, a1, a2, a3, a4])
    (hy : Sl w T y [.pointer (some ⟨gc, 0, none⟩), .pointer (some ⟨gc, 1, none⟩), .pointer (some ⟨gc, 2, none⟩)]) (hT : ∀ k, k < w.heap.size → T k → ¬ (k = b ∨ k = gc)) (hS : ∀ k, S k → k ≠ gc) (hab : gc ≠ b) :
    Calls Try.prog 42 #[.pointer (some ⟨b, 0, none⟩), y] w fun e w' => e = .returned (.tuple #[]) ∧ ∃ v', Rd w' b S v' (takeN (takeN (takeN st).2).2).2 ∧
      Blk w' gc 48 #[.int .i64 (takeN st).1, .int .i64 (takeN (takeN st).2).1, .int .i64 (takeN (takeN (takeN st).2).2).1, a3, a4] ∧ Mod (fun k => k = b ∨ k = gc) w w' := by
  obtain ⟨A, c, rfl, h1, h2, h3, h4⟩ := hy
  simp only [List.length_cons, List.length_nil, Nat.zero_add, Nat.reduceAdd]
  go_enter Try.func42, Try.ntmps42
  go_wp2
  go_loopw [9] (fun i wr => ∃ (k : Nat) (v' ua ub uc : Value) (s : Option (List UInt8)), k ≤ 3 ∧ i = .int .i64 k ∧ Rd wr b S v' s ∧ Blk wr gc 48 #[ua, ub, uc, a3, a4] ∧ Mod (fun k => k = b ∨ k = gc) w wr ∧
      Hid ((k = 0 → s = st) ∧ (k = 1 → s = (takeN st).2) ∧ (k = 2 → s = (takeN (takeN st).2).2) ∧ (k = 3 → s = (takeN (takeN (takeN st).2).2).2) ∧ (0 < k → ua = .int .i64 (takeN st).1) ∧ (1 < k → ub = .int .i64 (takeN (takeN st).2).1) ∧ (2 < k → uc = .int .i64 (takeN (takeN (takeN st).2).2).1))) (fun i _ => 3 - (intOf i).toNat)
  case atStart => exact ⟨0, v, a0, a1, a2, st, by omega, rfl, hrd, hc, Mod.refl _ _, ⟨fun _ => rfl, fun h => by omega, fun h => by omega, fun h => by omega, fun h => by omega, fun h => by omega, fun h => by omega⟩⟩
  case round =>
    obtain ⟨k, v', ua, ub, uc, s, hk, rfl, hr, hba, hm, hf⟩ := hrel
    by_cases hlt : k < 3
    · have hone : ∀ {w2 : World} {v2 : Value}, Rd w2 b S v2 (takeN s).2 → Mod (fun k => k = b) wr w2 → Blk w2 gc 48 #[ua, ub, uc, a3, a4] ∧ Mod (fun k => k = b ∨ k = gc) w w2 := fun _ g2 =>
        ⟨hba.mod g2 hab, hm.then_ g2 (fun _ _ h => .inl h)⟩
      have hset : ∀ (w2 : World) (j : Nat) (u : Value), Mod (fun k => k = gc) w2 (w2.setCell ⟨gc, j, none⟩ u) := fun w2 j u => (Mod.refl (fun k => k = gc) w2).setCell (fun _ => rfl) u
      rcases (show k = 0 ∨ k = 1 ∨ k = 2 by omega) with rfl | rfl | rfl
      · obtain ⟨ad, rfl, hs, hcell⟩ := (h4.mod hm hT) 0 _ rfl
        have hc0 : wr.cell? ad = some (.pointer (some ⟨gc, 0, none⟩)) := hcell
        have hs0 := hf.out.1 rfl
        subst hs0
        clear hcell
        go_wp2_with fail
        refine (num_any hr).mono ?_; rintro e w2 ⟨v2, rfl, g1, g2, g3⟩
        obtain ⟨q1, q3⟩ := hone g1 g2
        have hca : _ = some _ := Blk.cell q1 0
        have hfa := q1.frozen 0
        go_wp2_with fail
        exact ⟨⟨1, v2, _, ub, uc, (takeN s).2, by omega, rfl, g1.mod (hset w2 0 _) (fun h => hab h.symm) (fun k _ hk e => hS k hk e), q1.set_ 0 _, q3.then_ (hset w2 0 _) (fun _ _ h => .inr h),
          ⟨fun h => by omega, fun _ => rfl, fun h => by omega, fun h => by omega, fun _ => rfl, fun h => by omega, fun h => by omega⟩⟩, by simp [intOf]⟩
      · obtain ⟨ad, rfl, hs, hcell⟩ := (h4.mod hm hT) 1 _ rfl
        rw [add_one' ad] at hcell
        have hs0 := hf.out.2.1 rfl
        have ha0 := hf.out.2.2.2.2.1 (by omega)
        subst hs0
        subst ha0
        go_wp2_with fail
        refine (num_any hr).mono ?_; rintro e w2 ⟨v2, rfl, g1, g2, g3⟩
        obtain ⟨q1, q3⟩ := hone g1 g2
        have hca : _ = some _ := Blk.cell q1 1
        have hfa := q1.frozen 1
        go_wp2_with fail
        exact ⟨⟨2, v2, _, _, uc, _, by omega, rfl, g1.mod (hset w2 1 _) (fun h => hab h.symm) (fun k _ hk e => hS k hk e), q1.set_ 1 _, q3.then_ (hset w2 1 _) (fun _ _ h => .inr h),
          ⟨fun h => by omega, fun h => by omega, fun _ => rfl, fun h => by omega, fun _ => rfl, fun _ => rfl, fun h => by omega⟩⟩, by simp [intOf]⟩
      · obtain ⟨ad, rfl, hs, hcell⟩ := (h4.mod hm hT) 2 _ rfl
        rw [add_two' ad] at hcell
        have hs0 := hf.out.2.2.1 rfl
        have ha0 := hf.out.2.2.2.2.1 (by omega)
        have hb0 := hf.out.2.2.2.2.2.1 (by omega)
        subst hs0
        subst ha0
        subst hb0
        go_wp2_with fail
        refine (num_any hr).mono ?_; rintro e w2 ⟨v2, rfl, g1, g2, g3⟩
        obtain ⟨q1, q3⟩ := hone g1 g2
        have hca : _ = some _ := Blk.cell q1 2
        have hfa := q1.frozen 2
        go_wp2_with fail
        exact ⟨⟨3, v2, _, _, _, _, by omega, rfl, g1.mod (hset w2 2 _) (fun h => hab h.symm) (fun k _ hk e => hS k hk e), q1.set_ 2 _, q3.then_ (hset w2 2 _) (fun _ _ h => .inr h),
          ⟨fun h => by omega, fun h => by omega, fun h => by omega, fun _ => rfl, fun _ => rfl, fun _ => rfl, fun _ => rfl⟩⟩, by simp [intOf]⟩
    · obtain rfl : k = 3 := by omega
      have hs0 := hf.out.2.2.2.1 rfl
      have ha0 := hf.out.2.2.2.2.1 (by omega)
      have hb0 := hf.out.2.2.2.2.2.1 (by omega)
      have hc0 := hf.out.2.2.2.2.2.2 (by omega)
      subst hs0
      subst ha0
      subst hb0
      subst hc0
      go_wp2_with fail
      go_end0
      exact ⟨rfl, ⟨_, hr⟩, hba, hm⟩
end Go.Proofs.Ytmjkgibeljbloaa
