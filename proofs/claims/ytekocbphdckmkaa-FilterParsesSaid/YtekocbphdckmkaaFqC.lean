/- filter: a value as it is printed. -/
import Derived.Test.YtekocbphdckmkaaFqB
import Derived.Test.YtekocbphdckmkaaAppS
import Derived.Deep.RegionHeld3
namespace Go.Proofs.Ytekocbphdckmkaa
open Go.RowKit
set_option maxRecDepth 100000

def hexB (n : Nat) : UInt8 := [48, 49, 50, 51, 52, 53, 54, 55, 56, 57, 97, 98, 99, 100, 101, 102].getD n 0
section
variable {P : Program} {w : World} {t e : TypeId} {z : Value} {bytes : Nat} {ops : Array Oper} {o : Oper} {a : Act} {Q : Exit → Act → World → Prop}
/-- append(v, bytes that were laid) at a step of a region that draws. -/
theorem step_app {K : Act → World → Prop} {E : Prop} (d : Tmp) (hT : SliceTy P t e z bytes) {v y : Value} {S : Nat → Prop} {xs news : List Value} (hown : Own w e v xs) (hr : Sl w S y news) (h1 : ∀ u ∈ news, u.oneCell' = true)
    (hn : (xs.length + news.length) * bytes ≤ 140737488355328) (hgd : o.guard = none) (hd : o.dst = some d) (s yy : Operand) (ho : o.op = .call { callee := .builtin .append, args := #[s, yy], argTypes := #[t, t] }) (hs : a.eval s = v) (hy : a.eval yy = y)
    (h : ∀ v' w', Own w' e v' (xs ++ news) → Mod (own v) w w' → Next w.heap.size v v' → K (a.put o.dst v') w') : if Region.wanted o (yielded ops a.tmps) = true then Oper.wp P o a w K Q else E := by
  have hw : Region.wanted o (yielded ops a.tmps) = true := by simp [Region.wanted, hgd]
  rw [if_pos hw]
  obtain ⟨v', w', hrun, h2, h3, h4⟩ := run_app (P := P) hT o.type hown hr h1 hn
  unfold Oper.wp execOp
  simp only [ho, resolve, invoke, builtin, Sem.run_bind, Sem.run_pure, Result.andThen_ok, List.map_toArray, List.map_cons, List.map_nil, hs, hy, hrun]
  simp only [Oper.upon, hd]
  have := h v' w' h2 h3 h4
  rw [hd] at this
  exact this
end
theorem and15 (b : UInt8) : bits .and .u8 (b.toNat : Int) 15 = ((b.toNat % 16 : Nat) : Int) := by
  have : ∀ k : Nat, k < 256 → bits .and .u8 (k : Int) 15 = ((k % 16 : Nat) : Int) := by decide +kernel
  exact this _ b.toNat_lt

theorem hexI (n : Nat) (hn : n < 16) (h' : n < (⟨#[48, 49, 50, 51, 52, 53, 54, 55, 56, 57, 97, 98, 99, 100, 101, 102]⟩ : ByteArray).size) : (⟨#[48, 49, 50, 51, 52, 53, 54, 55, 56, 57, 97, 98, 99, 100, 101, 102]⟩ : ByteArray)[n]'h' = hexB n := by
  have : ∀ n, n < 16 → ∀ h', (⟨#[48, 49, 50, 51, 52, 53, 54, 55, 56, 57, 97, 98, 99, 100, 101, 102]⟩ : ByteArray)[n]'h' = hexB n := by decide
  exact this n hn h'
theorem cat_data (a b : List UInt8) : ((⟨a.toArray⟩ : ByteArray) ++ ⟨b.toArray⟩) = ⟨(a ++ b).toArray⟩ := by
  apply ByteArray.ext
  simp
/-- What must be told by two digits. -/
def specB (b : UInt8) : Prop := (b.toNat < 32 ∨ 126 < b.toNat) ∨ b ∈ [42, 40, 41, 92]
instance (b : UInt8) : Decidable (specB b) := by unfold specB; infer_instance
def escP (b : UInt8) : List UInt8 := if specB b then [92, hexB (b.toNat / 16), hexB (b.toNat % 16)] else [b]
/-- A value as it is printed. -/
def toldB (s : List UInt8) : List UInt8 := s.flatMap escP
theorem toldB_snoc (s : List UInt8) {k : Nat} (h : k < s.length) : toldB (s.take (k + 1)) = toldB (s.take k) ++ escP s[k] := by
  unfold toldB
  rw [List.take_succ_eq_append_getElem h, List.flatMap_append]
  simp
theorem escP_len (b : UInt8) : 1 ≤ (escP b).length ∧ (escP b).length ≤ 3 := by unfold escP; split <;> simp
theorem toldB_len : ∀ s : List UInt8, (toldB s).length ≤ 3 * s.length
  | [] => by simp [toldB]
  | b :: s => by
    have := toldB_len s
    have h2 := escP_len b
    unfold toldB at this ⊢
    rw [List.flatMap_cons, List.length_append, List.length_cons]
    omega
set_option maxHeartbeats 16000000 in
theorem fpv_any {w : World} {v : Value} {l s : List UInt8} (h : Own w 5 v (l.map bv)) (hn : l.length + 3 * s.length ≤ 100000000) :
    Calls Try.prog 36 #[v, sv s] w fun e w' => ∃ v', e = .returned v' ∧ Own w' 5 v' ((l ++ toldB s).map bv) ∧ Next w.heap.size v v' ∧ Mod (own v) w w' := by
  have hsz := sv_size s
  go_enter Try.func36, Try.ntmps36
  go_wp2_with fail
  go_loopw [0, 9] (fun vo i wr => ∃ k : Nat, k ≤ s.length ∧ i = .int .i64 k ∧ Own wr 5 vo ((l ++ toldB (s.take k)).map bv) ∧ Next w.heap.size v vo ∧ Mod (own v) w wr) (fun _ i _ => s.length - (intOf i).toNat)
  case atStart => exact ⟨0, Nat.zero_le _, rfl, by simpa [toldB] using h, Next.refl _ _, Mod.refl _ _⟩
  case round =>
    obtain ⟨k, hk, rfl, p1, p2, p3⟩ := hrel
    by_cases hlt : k < s.length
    case neg =>
      have hbl : decide ((k : Int) < (s.length : Int)) = false := dfalse (by omega)
      rw [List.take_of_length_le (by omega)] at p1
      go_wp2_with fail
      go_ret
      exact ⟨_, rfl, p1, p2, p3⟩
    have hbl : decide ((k : Int) < (s.length : Int)) = true := dtrue (by omega)
    obtain ⟨b, hbk⟩ : ∃ b, b = s[k] := ⟨_, rfl⟩
    have hg : ∀ h', (⟨s.toArray⟩ : ByteArray)[k]'h' = b := fun h' => (sv_get s k hlt h').trans hbk.symm
    have hsn := toldB_snoc s hlt
    rw [← hbk] at hsn
    have hel := toldB_len (s.take k)
    rw [List.length_take] at hel
    have hol : (l ++ toldB (s.take k)).length + 3 ≤ 140737488355328 := by rw [List.length_append]; omega
    have heq : l ++ toldB (s.take (k + 1)) = (l ++ toldB (s.take k)) ++ escP b := by rw [hsn, List.append_assoc]
    clear hsn hel hbk
    generalize l ++ toldB (s.take k) = o at *
    have hi0 : (0 : Int) ≤ (k : Int) := by omega
    have hi1 : (k : Int) < (s.length : Int) := by omega
    have hb256 := b.toNat_lt
    have hsx := sidx_any (w := wr) [42, 40, 41, 92] b
    have hix := idx_mem [42, 40, 41, 92] b
    generalize Lib.indexByte [42, 40, 41, 92] b = ix at *
    replace hsx := Lib.hid hsx
    by_cases hw1 : specB b
    · unfold escP at heq
      rw [if_pos hw1] at heq
      replace heq := Lib.hid heq
      have e0 : (0 : Int) ≤ (b.toNat : Int) / 16 := by omega
      have e1 : (b.toNat : Int) / 16 < 16 := by omega
      have e2 : (0 : Int) ≤ (b.toNat : Int) % 16 := by omega
      have e3 : (b.toNat : Int) % 16 < 16 := by omega
      have eb0 : (0 : Int) ≤ (b.toNat : Int) := by omega
      have eb1 : (b.toNat : Int) < 256 := by omega
      have e4 := and15 b
      have t1 : ∀ h', (⟨#[48, 49, 50, 51, 52, 53, 54, 55, 56, 57, 97, 98, 99, 100, 101, 102]⟩ : ByteArray)[((b.toNat : Int) / 16).toNat]'h' = hexB (b.toNat / 16) := fun h' => (hexI _ (by omega) h').trans (by congr 1)
      have t2 : ∀ h', (⟨#[48, 49, 50, 51, 52, 53, 54, 55, 56, 57, 97, 98, 99, 100, 101, 102]⟩ : ByteArray)[((b.toNat : Int) % 16).toNat]'h' = hexB (b.toNat % 16) := fun h' => (hexI _ (by omega) h').trans (by congr 1)
      have pw : Own wr.drew 5 u0 (o.map bv) := p1
      have mw : Mod (own v) w wr.drew := p3.drew
      have pd := pw.alloc (.cells #[.int .u8 92, bv (hexB (b.toNat / 16)), bv (hexB (b.toNat % 16))] 5)
      have pl := Sl.lit wr.drew 5 [(.int .u8 92 : Value), bv (hexB (b.toNat / 16)), bv (hexB (b.toNat % 16))] (by simp [maxLen])
      have pn := Lib.hid (show ((o.map bv).length + [(.int .u8 92 : Value), bv (hexB (b.toNat / 16)), bv (hexB (b.toNat % 16))].length) * 1 ≤ 140737488355328 by simp only [List.length_map, List.length_cons, List.length_nil]; omega)
      have heq2 : Hid ((l ++ toldB (s.take (k + 1))).map bv = o.map bv ++ [(.int .u8 92 : Value), bv (hexB (b.toNat / 16)), bv (hexB (b.toNat % 16))]) := Lib.hid (by rw [heq.out, List.map_append]; rfl)
      have hone : ∀ u ∈ [(.int .u8 92 : Value), bv (hexB (b.toNat / 16)), bv (hexB (b.toNat % 16))], u.oneCell' = true := by
        intro u hu
        simp only [List.mem_cons, List.not_mem_nil, or_false] at hu
        rcases hu with rfl | rfl | rfl <;> rfl
      generalize hexB (b.toNat / 16) = y1 at *
      generalize hexB (b.toNat % 16) = y2 at *
      clear p1
      obtain ⟨A, cc, rfl⟩ := pw.shape
      rw [List.length_map] at p2 pw pd
      have hcase : (decide ((b.toNat : Int) < 32) = true) ∨ (decide ((b.toNat : Int) < 32) = false ∧ decide ((126 : Int) < (b.toNat : Int)) = true) ∨ (decide ((b.toNat : Int) < 32) = false ∧ decide ((126 : Int) < (b.toNat : Int)) = false ∧ decide ((0 : Int) ≤ ix) = true) := by
        by_cases h1 : b.toNat < 32
        · exact .inl (dtrue (by omega))
        · by_cases h2 : 126 < b.toNat
          · exact .inr (.inl ⟨dfalse (by omega), dtrue (by omega)⟩)
          · refine .inr (.inr ⟨dfalse (by omega), dfalse (by omega), hix.trans (decide_eq_true ?_)⟩)
            rcases hw1 with h | h
            · omega
            · exact h
      clear hix hw1
      rcases hcase with c1 | ⟨c1, c2⟩ | ⟨c1, c2, c3⟩
      · go_wp2_with fail
        go_region_held3 (fun _ => True) (exact trivial) (first
          | (refine step_app 34 tyB pd pl hone pn.out rfl rfl (.tmp 26) (.tmp 33) rfl rfl rfl ?_; intro v2 w2 k1 k2 k3))
        all_goals go_wp2_with fail
        all_goals exact ⟨⟨k + 1, by omega, by go_num, by rw [heq2.out]; exact k1, p2.trans k3 (mw.alloc _).size, mw.then_ (mod_app k2) (fun b hb h => p2.sub hb h)⟩, by simp [intOf] <;> omega⟩
      · go_wp2_with fail
        go_region_held3 (fun _ => True) (exact trivial) (first
          | (refine step_app 34 tyB pd pl hone pn.out rfl rfl (.tmp 26) (.tmp 33) rfl rfl rfl ?_; intro v2 w2 k1 k2 k3))
        all_goals go_wp2_with fail
        all_goals exact ⟨⟨k + 1, by omega, by go_num, by rw [heq2.out]; exact k1, p2.trans k3 (mw.alloc _).size, mw.then_ (mod_app k2) (fun b hb h => p2.sub hb h)⟩, by simp [intOf] <;> omega⟩
      · go_wp2_with fail
        refine hsx.out.mono ?_
        rintro e w9 ⟨rfl, rfl⟩
        clear hsx
        go_wp2_with fail
        go_region_held3 (fun _ => True) (exact trivial) (first
          | (refine step_app 34 tyB pd pl hone pn.out rfl rfl (.tmp 26) (.tmp 33) rfl rfl rfl ?_; intro v2 w2 k1 k2 k3))
        all_goals go_wp2_with fail
        all_goals exact ⟨⟨k + 1, by omega, by go_num, by rw [heq2.out]; exact k1, p2.trans k3 (mw.alloc _).size, mw.then_ (mod_app k2) (fun b hb h => p2.sub hb h)⟩, by simp [intOf] <;> omega⟩
    · unfold escP at heq
      rw [if_neg hw1] at heq
      have c1 : decide ((b.toNat : Int) < 32) = false := dfalse (fun h => hw1 (.inl (.inl (by omega))))
      have c2 : decide ((126 : Int) < (b.toNat : Int)) = false := dfalse (fun h => hw1 (.inl (.inr (by omega))))
      have c3 : decide ((0 : Int) ≤ ix) = false := hix.trans (decide_eq_false (fun h => hw1 (.inr h)))
      have hol1 := Lib.hid (show o.length + 1 ≤ 140737488355328 by omega)
      obtain ⟨A, cc, rfl⟩ := p1.shape
      rw [List.length_map] at p1 p2
      replace heq := Lib.hid heq
      clear hix hw1
      go_wp2_with fail
      refine hsx.out.mono ?_
      rintro e w9 ⟨rfl, rfl⟩
      clear hsx
      go_wp2_with ((with_reducible show wpList _ _ _ (⟨some 38, _, _, _, _, _⟩ :: _) _ _); refine wp_app1 tyB p1 rfl hol1.out rfl (.tmp 35) (.tmp 37) rfl rfl rfl ?_; intro v2 w2 k1 k2 k3)
      exact ⟨⟨k + 1, by omega, by go_num, by rw [heq.out]; exact k1, p2.trans k3 p3.size, p3.then_ k2 (fun b hb h => p2.sub hb h)⟩, by simp [intOf] <;> omega⟩
end Go.Proofs.Ytekocbphdckmkaa
