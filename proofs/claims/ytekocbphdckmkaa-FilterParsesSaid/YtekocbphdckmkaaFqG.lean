/- filter: a filter that may be, printed and parsed, is it; without memory. -/
import Derived.Test.YtekocbphdckmkaaFqF
namespace Go.Proofs.Ytekocbphdckmkaa
open Go.RowKit
set_option maxRecDepth 100000

theorem dig_hex : ∀ k, k < 16 → digB (hexB k) = some (UInt8.ofNat k) := by decide
theorem hi_lo (b : UInt8) : UInt8.ofNat (b.toNat / 16) <<< 4 ||| UInt8.ofNat (b.toNat % 16) = b := by
  have h8 := b.toNat_lt
  apply UInt8.toNat_inj.1
  have h1 : (UInt8.ofNat (b.toNat / 16)).toNat = b.toNat / 16 := UInt8.toNat_ofNat_of_lt' (by show _ < 256; omega)
  have h2 : (UInt8.ofNat (b.toNat % 16)).toNat = b.toNat % 16 := UInt8.toNat_ofNat_of_lt' (by show _ < 256; omega)
  have h3 := hilo_eq (UInt8.ofNat (b.toNat / 16)) (UInt8.ofNat (b.toNat % 16)) (by omega) (by omega)
  rw [h1, h2] at h3
  omega
theorem valP_told : ∀ (V cur R : List UInt8), valP (toldB V ++ R) cur = valP R (cur ++ V)
  | [], cur, R => by simp [toldB]
  | b :: V, cur, R => by
    have h8 := b.toNat_lt
    have e : toldB (b :: V) ++ R = escP b ++ (toldB V ++ R) := by simp [toldB, List.append_assoc]
    rw [e]
    unfold escP
    by_cases hb : specB b
    · rw [if_pos hb]
      show valP (92 :: hexB (b.toNat / 16) :: hexB (b.toNat % 16) :: (toldB V ++ R)) cur = _
      rw [valP_esc (dig_hex _ (by omega)) (dig_hex _ (by omega)), hi_lo, valP_told V]
      simp
    · rw [if_neg hb]
      show valP (b :: (toldB V ++ R)) cur = _
      have h1 : ∀ n, n < 256 → UInt8.ofNat n ∈ [(42 : UInt8), 40, 41, 92] → b ≠ UInt8.ofNat n := fun n _ hm e => hb (.inr (by rw [e]; exact hm))
      rw [valP_plain (h1 41 (by omega) (by decide)) (fun h => by
        rcases h with h | h
        · exact h1 40 (by omega) (by decide) h
        · exact hb (.inl (.inl (by rw [h]; decide)))) (h1 42 (by omega) (by decide)) (h1 92 (by omega) (by decide)), valP_told V]
      simp
theorem valP_rest : ∀ (r : List (List UInt8)) (cur R : List UInt8), valP (r.flatMap (fun y => 42 :: toldB y) ++ 41 :: R) cur = some (cur :: r, 41 :: R)
  | [], cur, R => valP_end
  | y :: r, cur, R => by
    have e : (y :: r).flatMap (fun y => 42 :: toldB y) ++ 41 :: R = 42 :: (toldB y ++ (r.flatMap (fun y => 42 :: toldB y) ++ 41 :: R)) := by simp [List.append_assoc]
    rw [e, valP_star, valP_told, List.nil_append, valP_rest r]
    rfl
theorem valP_join (x : List UInt8) (r : List (List UInt8)) (R : List UInt8) : valP (joinB (x :: r) ++ 41 :: R) [] = some (x :: r, 41 :: R) := by
  rw [joinB, List.append_assoc, valP_told, List.nil_append, valP_rest]
theorem typ_sgn {b : UInt8} (h : typN b.toNat) : sgnB b = false := by
  have : ∀ n, n < 256 → (n = 61 ∨ n = 62 ∨ n = 60 ∨ n = 126) → b ≠ UInt8.ofNat n := fun n hn hv e => by
    rw [e, UInt8.toNat_ofNat_of_lt' (by show n < 256; omega)] at h
    unfold typN letN at h
    omega
  have h61 : (b == 61) = false := beq_eq_false_iff_ne.2 (this 61 (by omega) (by omega))
  have h62 : (b == 62) = false := beq_eq_false_iff_ne.2 (this 62 (by omega) (by omega))
  have h60 : (b == 60) = false := beq_eq_false_iff_ne.2 (this 60 (by omega) (by omega))
  have h126 : (b == 126) = false := beq_eq_false_iff_ne.2 (this 126 (by omega) (by omega))
  unfold sgnB
  rw [h61, h62, h60, h126]
  rfl
theorem take_typ {p : UInt8 → Bool} : ∀ (T : List UInt8) (c : UInt8) (S : List UInt8), (∀ b ∈ T, p b = true) → p c = false → (T ++ c :: S).takeWhile p = T ∧ (T ++ c :: S).dropWhile p = c :: S
  | [], c, S, _, hc => by
    rw [List.nil_append, List.takeWhile_cons, List.dropWhile_cons, hc]
    exact ⟨rfl, rfl⟩
  | b :: T, c, S, h, hc => by
    obtain ⟨h1, h2⟩ := take_typ T c S (fun x hx => h x (List.mem_cons_of_mem _ hx)) hc
    have hb := h b List.mem_cons_self
    rw [List.cons_append, List.takeWhile_cons, List.dropWhile_cons, hb]
    exact ⟨by rw [if_pos rfl, h1], by rw [if_pos rfl, h2]⟩
theorem typR_of {T S S' : List UInt8} {c d : UInt8} (hT : isTyp T) (hd : sgnB d = true) (hs : sgnP (d :: S) = some (c, S')) : typR (T ++ d :: S) = some (T, c, S') := by
  obtain ⟨h1, h2⟩ := take_typ (p := (! sgnB ·)) T d S (fun b hb => by rw [typ_sgn (hT.2.2.2 b hb)]; rfl) (by rw [hd]; rfl)
  unfold typR
  rw [h1, h2, if_pos hT, hs]
  rfl
theorem itemP_of {T S S' R : List UInt8} {c d : UInt8} {p : List (List UInt8)} {F : Fi} (hT : isTyp T) (hd : sgnB d = true) (hs : sgnP (d :: S) = some (c, S')) (hv : valP S' [] = some (p, R)) (hm : mkItem T c p = some F) : itemP (T ++ d :: S) = some (F, R) := by
  unfold itemP
  rw [typR_of hT hd hs]
  show (valP S' []).bind _ = _
  rw [hv]
  show (mkItem T c p).map _ = _
  rw [hm]
  rfl
theorem mkItem_one (T V : List UInt8) (c : UInt8) : mkItem T c [V] = some (.mk (kindC c) T V [] []) := by
  have h1 : ¬ (c ≠ 61 ∧ 1 < [V].length) := fun h => absurd h.2 (by simp)
  have h2 : [V] ≠ [[], []] := by simp
  have h3 : ¬ 1 < [V].length := by simp
  unfold mkItem kindC
  rw [if_neg h1, if_neg h2, if_neg h3]
  by_cases h62 : c = 62
  · rw [if_pos h62, if_pos h62]; rfl
  · rw [if_neg h62, if_neg h62]
    by_cases h60 : c = 60
    · rw [if_pos h60, if_pos h60]; rfl
    · rw [if_neg h60, if_neg h60]; rfl
/-- An item that may be, as it is printed. -/
theorem item_back {n : Nat} {F : Fi} {d : Nat} (h : OneC n F d) (hk : F.kids = []) (R : List UInt8) (hF : ¬ (F.kind = 0 ∨ F.kind = 1 ∨ F.kind = 2)) : itemP (midB F.kind F.typ F.val F.subs ++ 41 :: R) = some (F, 41 :: R) := by
  obtain ⟨kd, T, V, B, K⟩ := F
  simp only [Fi.kind, Fi.typ, Fi.val, Fi.subs, Fi.kids] at *
  subst hk
  cases h with
  | kids hk => exact absurd hk hF
  | val hk ht hv hs hl =>
    simp only [Fi.kind, Fi.typ, Fi.val, Fi.subs, Fi.kids] at *
    subst hs
    rcases hk with rfl | rfl | rfl
    · have e : midB 3 T V [] ++ 41 :: R = T ++ 61 :: (toldB V ++ 41 :: R) := by simp [midB, List.append_assoc]
      rw [e]
      exact itemP_of (c := 61) (S' := toldB V ++ 41 :: R) ht rfl rfl (by rw [valP_told, List.nil_append]; exact valP_end) (mkItem_one T V 61)
    · have e : midB 5 T V [] ++ 41 :: R = T ++ 62 :: 61 :: (toldB V ++ 41 :: R) := by simp [midB, List.append_assoc]
      rw [e]
      exact itemP_of (c := 62) (S' := toldB V ++ 41 :: R) ht rfl rfl (by rw [valP_told, List.nil_append]; exact valP_end) (mkItem_one T V 62)
    · have e : midB 6 T V [] ++ 41 :: R = T ++ 60 :: 61 :: (toldB V ++ 41 :: R) := by simp [midB, List.append_assoc]
      rw [e]
      exact itemP_of (c := 60) (S' := toldB V ++ 41 :: R) ht rfl rfl (by rw [valP_told, List.nil_append]; exact valP_end) (mkItem_one T V 60)
  | sub hk ht hv hs hl =>
    simp only [Fi.kind, Fi.typ, Fi.val, Fi.subs, Fi.kids] at *
    subst hk hv
    have e : midB 4 T [] B ++ 41 :: R = T ++ 61 :: (joinB B ++ 41 :: R) := by simp [midB, List.append_assoc]
    rw [e]
    have hB : ∃ x r, B = x :: r := by
      cases B with
      | nil => exact absurd hs.1 (by simp)
      | cons x r => exact ⟨x, r, rfl⟩
    obtain ⟨x, r, rfl⟩ := hB
    refine itemP_of (c := 61) (S' := joinB (x :: r) ++ 41 :: R) ht rfl rfl (valP_join x r R) ?_
    have h2 := hs.1
    have hne : x :: r ≠ [[], []] := fun e => by
      obtain ⟨s, h3, h4⟩ := hs.2.2.2
      rw [e] at h3
      simp at h3
      exact h4 h3
    unfold mkItem
    rw [if_neg (fun h => h.1 rfl), if_neg (by decide), if_neg (by decide), if_neg hne, if_pos (by omega)]
  | pre hk ht hv hs hl =>
    simp only [Fi.kind, Fi.typ, Fi.val, Fi.subs, Fi.kids] at *
    subst hk hv hs
    have e : midB 7 T [] [] ++ 41 :: R = T ++ 61 :: 42 :: 41 :: R := by simp [midB]
    rw [e]
    exact itemP_of (c := 61) (S' := 42 :: 41 :: R) ht rfl rfl (by rw [valP_star, valP_end]; rfl) rfl
theorem many_back (p : List UInt8 → PR) (T : Fi → List UInt8) (R : List UInt8) : ∀ (L : List Fi) (m : Nat) (K : List Fi), (∀ x ∈ L, (T x).head? = some 40 ∧ ∀ Q, p (T x ++ Q) = .ok (x, Q)) → L.length < m → (K ≠ [] ∨ L ≠ []) → manyP p m true K (L.flatMap T ++ 41 :: R) = .ok (K ++ L, 41 :: R)
  | [], m, K, _, hm, hK => by
    obtain ⟨m, rfl⟩ : ∃ j, m = j + 1 := ⟨m - 1, by simp only [List.length_nil] at hm; omega⟩
    rw [manyP, if_neg]
    · simp
    · rintro (h | ⟨-, h⟩)
      · exact hK.elim (fun h2 => h2 h) (fun h2 => h2 rfl)
      · simp at h
  | x :: L, m, K, h, hm, hK => by
    obtain ⟨m, rfl⟩ : ∃ j, m = j + 1 := ⟨m - 1, by simp only [List.length_cons] at hm; omega⟩
    obtain ⟨h1, h2⟩ := h x List.mem_cons_self
    have e : (x :: L).flatMap T ++ 41 :: R = T x ++ (L.flatMap T ++ 41 :: R) := by simp [List.append_assoc]
    have hh : (T x ++ (L.flatMap T ++ 41 :: R)).head? = some 40 := by
      cases hT : T x with
      | nil => rw [hT] at h1; cases h1
      | cons a Q => rw [hT] at h1; exact h1
    rw [e, manyP, if_pos (.inr ⟨rfl, hh⟩), h2]
    show manyP p m true (K ++ [x]) (L.flatMap T ++ 41 :: R) = _
    rw [many_back p T R L m (K ++ [x]) (fun y hy => h y (List.mem_cons_of_mem _ hy)) (by simp only [List.length_cons] at hm; omega) (.inl (by simp))]
    simp
theorem textN_head {n : Nat} {F : Fi} {d : Nat} (h : oneN n F d = true) : ∃ Q, textN n F = 40 :: Q := by
  cases n with
  | zero => cases h
  | succ n => exact ⟨midB F.kind F.typ F.val F.subs ++ F.kids.flatMap (textN n) ++ [41], by rw [textN_succ]; simp⟩
theorem flat_len_ge (n : Nat) : ∀ (K : List Fi), (∀ x ∈ K, ∃ Q, textN n x = 40 :: Q) → K.length ≤ (K.flatMap (textN n)).length
  | [], _ => by simp
  | x :: K, h => by
    obtain ⟨Q, hQ⟩ := h x List.mem_cons_self
    have := flat_len_ge n K (fun y hy => h y (List.mem_cons_of_mem _ hy))
    simp only [List.flatMap_cons, List.length_append, List.length_cons, hQ]
    omega
/-- A filter that may be, printed and parsed, is it. -/
theorem fil_back : ∀ (k : Nat) {m : Nat} {F : Fi} (R : List UInt8), k ≤ 16 → oneN m F (17 - k) = true → filP k (textN m F ++ R) = .ok (F, R)
  | _, 0, _, _, _, h => by cases h
  | 0, m + 1, F, R, _, h => by
    have := (one_cases h).1
    omega
  | k + 1, m + 1, F, R, hk, h => by
    obtain ⟨-, hc⟩ := one_cases h
    have e : textN (m + 1) F ++ R = 40 :: (midB F.kind F.typ F.val F.subs ++ (F.kids.flatMap (textN m) ++ 41 :: R)) := by rw [textN_succ]; simp [List.append_assoc]
    rw [e, filP, List.head?_cons, if_pos rfl, List.tail_cons]
    have key : innerP (filP k) (midB F.kind F.typ F.val F.subs ++ (F.kids.flatMap (textN m) ++ 41 :: R)) = .ok (F, 41 :: R) := by
      have hitem : F.kids = [] → ¬ (F.kind = 0 ∨ F.kind = 1 ∨ F.kind = 2) → isTyp F.typ → innerP (filP k) (midB F.kind F.typ F.val F.subs ++ (F.kids.flatMap (textN m) ++ 41 :: R)) = .ok (F, 41 :: R) := fun hK hno ht => by
        rw [hK, List.flatMap_nil, List.nil_append, ← inner_item, item_back hc hK R hno]
        · rfl
        all_goals
          have h1 := ht.1
          have h3 := ht.2.2.1
          have hh : ∃ a Q, midB F.kind F.typ F.val F.subs ++ 41 :: R = a :: Q ∧ letN a.toNat := by
            cases hT : F.typ with
            | nil => rw [hT] at h1; simp at h1
            | cons a Q =>
              rw [hT] at h3
              refine ⟨a, ?_⟩
              cases hc with
              | kids hk => exact absurd hk hno
              | val hk => rcases hk with e | e | e <;> rw [e] <;> exact ⟨_, by simp [midB] <;> rfl, h3⟩
              | sub hk => rw [hk]; exact ⟨_, by simp [midB] <;> rfl, h3⟩
              | pre hk => rw [hk]; exact ⟨_, by simp [midB] <;> rfl, h3⟩
          obtain ⟨a, Q, hQ, ha⟩ := hh
          rw [hQ, List.head?_cons]
          intro he
          cases he
          exact absurd ha (by decide)
      cases hc with
      | kids hkd ht hv hs hl h2 ha =>
        obtain ⟨kd, T, V, B, K⟩ := F
        simp only [Fi.kind, Fi.typ, Fi.val, Fi.subs, Fi.kids] at *
        subst ht hv hs
        have hb : ∀ x ∈ K, (textN m x).head? = some 40 ∧ ∀ Q, filP k (textN m x ++ Q) = .ok (x, Q) := fun x hx => by
          obtain ⟨Q, hQ⟩ := textN_head (ha x hx)
          exact ⟨by rw [hQ]; rfl, fun Q => fil_back k Q (by omega) (by have := ha x hx; rwa [show 17 - (k + 1) + 1 = 17 - k by omega] at this)⟩
        have hlen := flat_len_ge m K (fun x hx => textN_head (ha x hx))
        have hne : K ≠ [] := fun e => by rw [e] at hl; simp at hl
        have hm : ∀ b, b = true → manyP (filP k) ((K.flatMap (textN m) ++ 41 :: R).length + 1) b [] (K.flatMap (textN m) ++ 41 :: R) = .ok (K, 41 :: R) := fun b hb2 => by
          rw [hb2, many_back (filP k) (textN m) R K _ [] hb (by rw [List.length_append]; omega) (.inr hne)]
          rfl
        rcases hkd with rfl | rfl | rfl
        · show innerP (filP k) (38 :: (K.flatMap (textN m) ++ 41 :: R)) = _
          rw [← inner_kids (c := 38) (kd := 0) (b := true) rfl (.inl ⟨rfl, rfl, rfl⟩), List.tail_cons]
          unfold kidsP
          rw [hm true rfl]
        · show innerP (filP k) (124 :: (K.flatMap (textN m) ++ 41 :: R)) = _
          rw [← inner_kids (c := 124) (kd := 1) (b := true) rfl (.inr (.inl ⟨rfl, rfl, rfl⟩)), List.tail_cons]
          unfold kidsP
          rw [hm true rfl]
        · show innerP (filP k) (33 :: (K.flatMap (textN m) ++ 41 :: R)) = _
          rw [← inner_kids (c := 33) (kd := 2) (b := false) rfl (.inr (.inr ⟨rfl, rfl, rfl⟩)), List.tail_cons]
          have hx : ∃ x, K = [x] := by
            match K, hl, h2 with
            | [x], _, _ => exact ⟨x, rfl⟩
            | _ :: _ :: _, _, h2 => exact absurd ⟨rfl, by simp⟩ h2
          obtain ⟨x, rfl⟩ := hx
          obtain ⟨Q, hQ⟩ := textN_head (ha x (List.mem_singleton.2 rfl))
          have hp := (hb x (List.mem_singleton.2 rfl)).2 (41 :: R)
          unfold kidsP
          have e2 : [x].flatMap (textN m) ++ 41 :: R = textN m x ++ 41 :: R := by simp
          rw [e2]
          obtain ⟨j, hj⟩ : ∃ j, (textN m x ++ 41 :: R).length + 1 = j + 1 + 1 := ⟨(textN m x ++ 41 :: R).length - 1, by rw [List.length_append, hQ, List.length_cons]; omega⟩
          have hm2 : manyP (filP k) (j + 1 + 1) false [] (textN m x ++ 41 :: R) = .ok ([x], 41 :: R) := by
            rw [manyP, if_pos (.inl rfl), hp]
            show manyP (filP k) (j + 1) false ([] ++ [x]) (41 :: R) = _
            rw [manyP, if_neg (by simp)]
            rfl
          rw [hj, hm2]
      | val hkd ht hv hs hl => exact hitem hl (by rintro (e | e | e) <;> rw [e] at hkd <;> omega) ht
      | sub hkd ht hv hs hl => exact hitem hl (by rintro (e | e | e) <;> rw [e] at hkd <;> omega) ht
      | pre hkd ht hv hs hl => exact hitem hl (by rintro (e | e | e) <;> rw [e] at hkd <;> omega) ht
    rw [key]
    rfl
/-- Is a filter that may be, seen n deep, one that is seen m deep? -/
theorem one_more : ∀ {n : Nat} {F : Fi} {d : Nat} (m : Nat), oneN n F d = true → 17 ≤ m + d → oneN m F d = true ∧ nodesN m F = nodesN n F
  | 0, _, _, _, h, _ => by cases h
  | n + 1, F, d, 0, h, hm => by
    have := (one_cases h).1
    omega
  | n + 1, F, d, m + 1, h, hm => by
    obtain ⟨h16, hc⟩ := one_cases h
    have hrec : ∀ x ∈ F.kids, oneN n x (d + 1) = true → oneN m x (d + 1) = true ∧ nodesN m x = nodesN n x := fun x _ hx => one_more m hx (by omega)
    cases hc with
    | kids hk ht hv hs hl h2 ha =>
      refine ⟨?_, ?_⟩
      · rw [oneN, if_neg (by omega), if_pos hk, dtrue ⟨ht, hv, hs, hl, h2⟩, Bool.true_and, List.all_eq_true]
        exact fun x hx => (hrec x hx (ha x hx)).1
      · rw [nodes_succ, nodes_succ]
        congr 2
        exact List.map_congr_left (fun x hx => (hrec x hx (ha x hx)).2)
    | val hk ht hv hs hl =>
      refine ⟨?_, by rw [nodes_succ, nodes_succ, hl]; rfl⟩
      rw [oneN, if_neg (by omega), if_neg (by rintro (e | e | e) <;> rw [e] at hk <;> omega), if_pos hk, dtrue ⟨ht, hv, hs, by rw [hl]; rfl⟩]
    | sub hk ht hv hs hl =>
      refine ⟨?_, by rw [nodes_succ, nodes_succ, hl]; rfl⟩
      rw [oneN, if_neg (by omega), if_neg (by rintro (e | e | e) <;> rw [e] at hk <;> omega), if_neg (by rintro (e | e | e) <;> rw [e] at hk <;> omega), if_pos hk, dtrue ⟨ht, hv, hs, by rw [hl]; rfl⟩]
    | pre hk ht hv hs hl =>
      refine ⟨?_, by rw [nodes_succ, nodes_succ, hl]; rfl⟩
      rw [oneN, if_neg (by omega), if_neg (by rintro (e | e | e) <;> rw [e] at hk <;> omega), if_neg (by rintro (e | e | e) <;> rw [e] at hk <;> omega), if_neg (by rw [hk]; decide), if_pos hk, dtrue ⟨ht, hv, hs, by rw [hl]; rfl⟩]
theorem parse_print {n : Nat} {F : Fi} (h : isN n F = true) : parseP (textN n F) = .ok F := by
  unfold isN at h
  rw [Bool.and_eq_true_iff] at h
  have h1 := fil_back 16 [] (Nat.le_refl _) h.1
  rw [List.append_nil] at h1
  have h2 := one_more 16 h.1 (by omega)
  unfold parseP
  rw [h1]
  show (if ([] : List UInt8) = [] then (if isN 16 F = true then (Except.ok F : Except Nat Fi) else .error 5) else .error 3) = _
  rw [if_pos rfl, if_pos]
  unfold isN
  rw [h2.1, h2.2, h.2]
  rfl
end Go.Proofs.Ytekocbphdckmkaa
