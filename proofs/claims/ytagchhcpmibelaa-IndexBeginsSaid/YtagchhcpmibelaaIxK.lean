/- index: what is written turns the old keys into the new. -/
import Derived.Test.YtagchhcpmibelaaIxJ
import Derived.Test.YtagchhcpmibelaaIxH
import Derived.Test.YtagchhcpmibelaaIxG
namespace Go.Proofs.Ytagchhcpmibelaa
open Go.RowKit
set_option maxRecDepth 100000

/-- What the law counts on of the known case. -/
def KnownI : Prop := ∀ w : World, Calls Try.prog 41 #[] w fun e w' => e = .returned (.bool true) ∧ Ext w w'
/-- k rows are written. -/
def St (a : Tx) (D : List Ro) (k : Nat) (N : Tx) : Prop := riseT N ∧ ∀ x, x ∈ N ↔ (x ∈ a ∧ goneR x ∉ D.take k) ∨ newR x ∈ D.take k
theorem St.start {a : Tx} (h : riseT a) (D : List Ro) : St a D 0 a := ⟨h, fun x => by simp⟩
theorem St.gone {a b : Tx} {D : List Ro} {k : Nat} {N : Tx} (h : St a D k N) (hd : IsDif a b D) (hk : k < D.length) {key : List UInt8} (he : D[k] = goneR key) : St a D (k + 1) (N.filter fun x => x != key) := by
  have ht : D.take (k + 1) = D.take k ++ [goneR key] := by rw [List.take_succ_eq_append_getElem hk, he]
  have hka : key ∈ a := by
    have h1 : goneR key ∈ D := he ▸ List.getElem_mem hk
    rcases (hd.2 _).1 h1 with ⟨j, j1, _, e⟩ | ⟨j, _, _, e⟩
    · rw [gone_inj _ _ e]; exact j1
    · cases e
  refine ⟨h.1.sublist List.filter_sublist, fun x => ?_⟩
  rw [List.mem_filter, h.2, ht]
  simp only [bne_iff_ne, List.mem_append, List.mem_singleton]
  constructor
  · rintro ⟨⟨h1, h2⟩ | h1, h3⟩
    · exact .inl ⟨h1, fun h4 => h4.elim h2 (fun e => h3 (gone_inj _ _ e))⟩
    · exact .inr (.inl h1)
  · rintro (⟨h1, h2⟩ | h1 | h1)
    · exact ⟨.inl ⟨h1, fun h => h2 (.inl h)⟩, fun e => h2 (.inr (by rw [e]))⟩
    · refine ⟨.inr h1, ?_⟩
      rintro rfl
      rcases (hd.2 _).1 (List.mem_of_mem_take h1) with ⟨j, _, _, e⟩ | ⟨j, _, j2, e⟩
      · cases e
      · rw [← new_inj _ _ e] at j2; exact j2 hka
    · cases h1
theorem St.new_ {a : Tx} {D : List Ro} {k : Nat} {N N' : Tx} (h : St a D k N) (hk : k < D.length) {key : List UInt8} (he : D[k] = newR key) (h1 : riseT N') (h2 : ∀ x, x ∈ N' ↔ x ∈ N ∨ x = key) : St a D (k + 1) N' := by
  have ht : D.take (k + 1) = D.take k ++ [newR key] := by rw [List.take_succ_eq_append_getElem hk, he]
  refine ⟨h1, fun x => ?_⟩
  rw [h2, h.2, ht]
  simp only [List.mem_append, List.mem_singleton]
  constructor
  · rintro ((⟨h1, h2⟩ | h1) | rfl)
    · exact .inl ⟨h1, fun h4 => h4.elim h2 (fun e => by cases e)⟩
    · exact .inr (.inl h1)
    · exact .inr (.inr rfl)
  · rintro (⟨h1, h2⟩ | h1 | h1)
    · exact .inl (.inl ⟨h1, fun h => h2 (.inl h)⟩)
    · exact .inl (.inr h1)
    · exact .inr (new_inj _ _ h1)
theorem St.end_ {a b : Tx} {D : List Ro} {N : Tx} (h : St a D D.length N) (ha : riseT a) (hb : riseT b) (hd : IsDif a b D) : N = b :=
  dif_ends ha hb hd h.1 (fun x => by have := h.2 x; rwa [List.take_length] at this)
theorem mrg_le (a b : Tx) : (mrg a b).length ≤ a.length + b.length := by
  induction a, b using mrg.induct <;> rw [mrg] <;> simp_all <;> omega

set_option maxHeartbeats 32000000 in
theorem diffs_any (hkn : KnownI) (hsort : SortW) (hnil : SortN) {w : World} {S S' : Nat → Prop} {v v' : Value} {a b : Tx} (ha : Ts w S v a) (hb : Ts w S' v' b) (fa : TFits a) (fb : TFits b) :
    Calls Try.prog 11 #[v, v'] w fun e w' => e = .returned (.bool true) ∧ Ext w w' := by
  have hc1 := fun (h : a.length ≤ 1000000) => rise21_any ha h
  have hc2 := fun (wx : World) (x : Ext w wx) (h : b.length ≤ 1000000) => rise21_any (hb.ext x) h
  have hc3 := fun (wx : World) (x : Ext w wx) (h1 : a.length ≤ 1000) (h2 : b.length ≤ 1000) => diff_any hsort hnil (ha.ext x) (hb.ext x) fa fb h1 h2
  have hc4 := fun (wx : World) (x : Ext w wx) (h1 : a.length ≤ 1000) (h2 : b.length ≤ 1000) => refDiff_any (ha.ext x) (hb.ext x) h1 h2
  have hc5 := fun {wx : World} {T : Nat → Prop} {u : Value} {N : Tx} (h : Ts wx T u N) (key : List UInt8) (hl : N.length ≤ 10000) => cut_any (s := key) h hl
  have hc6 := fun {wx : World} {T : Nat → Prop} {u : Value} {N : Tx} (h : Ts wx T u N) (hr : riseT N) (key : List UInt8) (hl : N.length ≤ 10000) => lay_any (s := key) h hr hl
  have hc7 := fun {wx : World} {T : Nat → Prop} {u : Value} {N : Tx} (h : Ts wx T u N) (x : Ext w wx) => texts21_any h (hb.ext x)
  have ha0 := ha
  have hb0 := hb
  obtain ⟨A, c, rfl, h1, h2, h3, h4⟩ := ha.open_
  obtain ⟨B, d, rfl, j1, j2, j3, j4⟩ := hb.open_
  clear ha hb fa fb hsort hnil
  by_cases hla : a.length ≤ 100
  case neg =>
    have hbl : decide ((100 : Int) < (a.length : Int)) = true := dtrue (by omega)
    clear hc1 hc2 hc3 hc4 hc5 hc6 hc7 hkn
    go_enter Try.func11, Try.ntmps11
    go_wp2_with fail
    go_ret
    exact ⟨rfl, Mod.refl _ _⟩
  have hbl : decide ((100 : Int) < (a.length : Int)) = false := dfalse (by omega)
  by_cases hlb : b.length ≤ 100
  case neg =>
    have hbl2 : decide ((100 : Int) < (b.length : Int)) = true := dtrue (by omega)
    clear hc1 hc2 hc3 hc4 hc5 hc6 hc7 hkn
    go_enter Try.func11, Try.ntmps11
    go_wp2_with fail
    go_ret
    exact ⟨rfl, Mod.refl _ _⟩
  have hbl2 : decide ((100 : Int) < (b.length : Int)) = false := dfalse (by omega)
  replace hc1 := hc1 (by omega)
  replace hc2 := fun wx x => hc2 wx x (by omega)
  replace hc3 := fun wx x => hc3 wx x (by omega) (by omega)
  replace hc4 := fun wx x => hc4 wx x (by omega) (by omega)
  go_enter Try.func11, Try.ntmps11
  go_wp2_with fail
  refine hc1.mono ?_
  rintro e w1 ⟨⟨q, rfl, hq⟩, x1⟩
  clear hc1
  cases q
  case false =>
    clear hc2 hc3 hc4 hc5 hc6 hc7 hkn hq
    go_wp2_with fail
    go_ret
    exact ⟨rfl, x1⟩
  have hra := Lib.hid (hq rfl)
  clear hq
  go_wp2_with fail
  refine (hc2 _ x1).mono ?_
  rintro e w2 ⟨⟨q, rfl, hq⟩, x2⟩
  have y2 := ext_trans x1 x2
  clear hc2 x1 x2
  cases q
  case false =>
    clear hc3 hc4 hc5 hc6 hc7 hkn hq
    go_wp2_with fail
    go_ret
    exact ⟨rfl, y2⟩
  have hrb := Lib.hid (hq rfl)
  clear hq
  go_wp2_with fail
  refine (hc3 _ y2).mono ?_
  rintro e w3 ⟨u3, D, rfl, o3, f3, hD, x3⟩
  have y3 := ext_trans y2 x3
  clear hc3
  go_wp2_with fail
  refine (hc4 _ y3).mono ?_
  rintro e w4 ⟨u4, rfl, o4, f4, x4⟩
  have y4 := ext_trans y3 x4
  clear hc4 f3 f4
  have hm := mrg_le a b
  rw [← hD.one (mrg_is a b hra.out hrb.out)] at o4 hm
  have o3' := o3.ext x4
  clear o3 x4 x3 y3 y2
  replace hD := Lib.hid hD
  obtain ⟨C, e, rfl, i1, i2, i3, i4⟩ := o3'.rc.open_ rol_len
  obtain ⟨E, g, rfl, l1, l2, l3, l4⟩ := o4.rc.open_ rol_len
  clear o3' o4
  have hg1 : ((([] : List Value)).length + (a.map sv).length) * 16 ≤ 140737488355328 := by rw [List.length_map, List.length_nil]; omega
  go_wp2_with ((with_reducible show wpList _ _ _ (⟨some 40, _, _, _, _, _⟩ :: _) _ _); refine wp_app tyS (Own.empty w4 9) ((ha0.ext y4).alloc _) (sv_ok _) rfl (.tmp 38) (.tmp 39) rfl rfl rfl hg1 ?_; intro v5 w5 k1 k2 k3)
  have o5 : OwnT w5 v5 a := k1
  have x5 : Ext w4 w5 := ext_app0 ((Mod.refl (fun _ => False) w4).alloc _) (fresh_at (Mod.refl _ _)) k2
  have y5 := ext_trans y4 x5
  have t5 : Ts w5 (fun _ => True) v5 a := o5.sl.mono (fun _ _ _ => trivial)
  have p1 := i4.ext x5
  have p2 := l4.ext x5
  have hst := Lib.hid (St.start hra.out D)
  clear k1 k2 k3 o5 x5 y4 i4 l4 hg1
  go_loopw [7, 8] (fun u i wr => ∃ (k : Nat) (N : Tx), k ≤ D.length ∧ i = .int .i64 k ∧ Ts wr (fun _ => True) u N ∧ Hid (St a D k N) ∧ N.length ≤ a.length + k ∧ Ext w5 wr) (fun _ i _ => D.length - (intOf i).toNat)
  case atStart => exact ⟨0, a, Nat.zero_le _, rfl, t5, hst, by omega, Mod.refl _ _⟩
  case round =>
    clear t5 hst
    obtain ⟨k, N, hk, rfl, tN, hs, hnl, hx⟩ := hrel
    have y6 := ext_trans y5 hx
    by_cases hlt : k < D.length
    case neg =>
      have hbk : decide ((k : Int) < (D.length : Int)) = false := dfalse (by omega)
      obtain rfl : k = D.length := by omega
      have he := hs.out.end_ hra.out hrb.out hD.out
      subst he
      have hc8 := hc7 tN y6
      rw [dtrue rfl] at hc8
      clear hc5 hc6 hc7 hs hra hrb hD p1 p2
      go_wp2_with fail
      refine hc8.mono ?_
      rintro e w7 ⟨rfl, x7⟩
      go_wp2_with fail
      refine (hkn _).mono ?_
      rintro e w8 ⟨rfl, x8⟩
      go_wp2_with fail
      go_ret
      exact ⟨rfl, ext_trans y6 (ext_trans x7 x8)⟩
    have hbk : decide ((k : Int) < (D.length : Int)) = true := dtrue (by omega)
    obtain ⟨ad, hA, hS, c0, c1, c2⟩ := Rs.at_ (p1.ext hx) hlt
    subst hA
    obtain ⟨bd, hB, hT, d0, d1, d2⟩ := Rs.at_ (p2.ext hx) hlt
    subst hB
    have hi0 : (0 : Int) ≤ (k : Int) := by omega
    have hi1 : (k : Int) < (D.length : Int) := by omega
    have hdw : ∀ m, Ext w5 (wr.drewN m) := fun m => hx.drewN m
    have hmem := (hD.out.2 D[k]).1 (List.getElem_mem hlt)
    have g1 : ∀ key, D[k] = goneR key → Hid (St a D (k + 1) (N.filter fun x => x != key)) := fun key h => Lib.hid (hs.out.gone hD.out hlt h)
    have g2 : ∀ key, D[k] = newR key → Hid (∀ N', riseT N' → (∀ x, x ∈ N' ↔ x ∈ N ∨ x = key) → St a D (k + 1) N') := fun key h => Lib.hid (fun N' h1 h2 => hs.out.new_ hlt h h1 h2)
    have hrN := Lib.hid hs.out.1
    have hNl : N.length ≤ 10000 := by omega
    clear hs hc7 hkn
    generalize D[k] = x at *
    have hgu := fun wx a b => guardW wx .neq a b (rar x) (rar x)
    have hne : ∀ wx, (binOp .neq 66 (.agg (rar x)) (.agg (rar x))).run Try.prog wx = .ok (.bool false) wx := fun wx => by rw [neqW, dtrue rfl]; rfl
    rcases hmem with ⟨key, _, _, rfl⟩ | ⟨key, _, _, rfl⟩
    · have g3 := g1 key rfl
      have hc8 := fun m => hc5 (wx := wr.drewN m) (tN.drewN m) key hNl
      clear g1 g2 hc5 hc6
      go_wp2_with fail
      go_quiet (fail)
      go_wp2_with fail
      refine (hc8 _).mono ?_
      rintro e w7 ⟨u7, rfl, o7, f7, x7⟩
      go_wp2_with fail
      exact ⟨⟨k + 1, _, by omega, by go_num, o7.sl.mono (fun _ _ _ => trivial), g3, by have := List.length_filter_le (fun x => x != key) N; omega, ext_trans (hdw _) x7⟩, by simp [intOf] <;> omega⟩
    · have g3 := g2 key rfl
      have hc8 := fun m => hc6 (wx := wr.drewN m) (tN.drewN m) hrN.out key hNl
      clear g1 g2 hc5 hc6
      go_wp2_with fail
      go_quiet (fail)
      go_wp2_with fail
      refine (hc8 _).mono ?_
      rintro e w7 ⟨⟨u7, rfl, N', t7, r7, m7, l7⟩, x7⟩
      have g4 := Lib.hid (g3.out N' r7 m7)
      clear g3 m7
      go_wp2_with fail
      exact ⟨⟨k + 1, N', by omega, by go_num, t7, g4, by omega, ext_trans (hdw _) x7⟩, by simp [intOf] <;> omega⟩
end Go.Proofs.Ytagchhcpmibelaa
