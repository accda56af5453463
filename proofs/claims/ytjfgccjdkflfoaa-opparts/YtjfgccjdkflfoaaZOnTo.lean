/-
  Rows of the call's own, of whatever width: one row appended behind another; how they stay; as cells.
-/
import Derived.Test.YtjfgccjdkflfoaaZRows7
namespace Go.Proofs.Ytjfgccjdkflfoaa
open Go.RowKit
set_option linter.unusedVariables false
set_option linter.unusedSimpArgs false

theorem own_later {B : Nat} {e : TypeId} {k : Nat} {v : Value} {n : Nat} {xs : List Value} {w w' : World} (h : w.ownsRow B e k v n xs) (hb : Below w.heap.size w w') : w'.ownsRow B e k v n xs :=
  h.kept (row := none) ⟨hb.os, hb.tape, hb.output, hb.size, fun j hj _ => hb.block j hj⟩ (by cases hv : v.ownBlock <;> simp)

theorem own_mono {B C : Nat} {e : TypeId} {k : Nat} {v : Value} {n : Nat} {xs : List Value} {w : World} (h : w.ownsRow B e k v n xs) (hC : C ≤ B) : w.ownsRow C e k v n xs := by
  refine ⟨h.1, ?_⟩
  rcases h.2 with h2 | ⟨g, cap, cur, hv, hg, r⟩
  · exact Or.inl h2
  · exact Or.inr ⟨g, cap, cur, hv, Nat.le_trans hC hg, r⟩

/-- It stays while only what lies from C on turns, its own block below C. -/
theorem own_under {B C : Nat} {e : TypeId} {k : Nat} {v : Value} {n : Nat} {xs : List Value} {w w' : World} (h : w.ownsRow B e k v n xs) (hg : ∀ g, v.ownBlock = some g → g < C) (hb : Below C w w') : w'.ownsRow B e k v n xs := by
  refine ⟨h.1, ?_⟩
  rcases h.2 with h2 | ⟨g, cap, cur, hv, h3, h4, r⟩
  · exact Or.inl h2
  · exact Or.inr ⟨g, cap, cur, hv, h3, by rw [hb.block g (hg g (by rw [hv]; rfl))]; exact h4, r⟩

theorem own_row {B : Nat} {e : TypeId} {s n c : Nat} {ao : Option Addr} {xs : List Value} {w : World} (h : w.ownsRow B e s (.slice ao n c) n xs) : FOwn B w ao xs := by
  rcases h.2 with ⟨h1, h2⟩ | ⟨g, cap, cur, h1, _⟩
  · have : xs.length = 0 := by rw [h.1, h2, Nat.zero_mul]
    exact fun h0 => by omega
  · simp only [Value.slice.injEq] at h1
    obtain ⟨rfl, _, rfl⟩ := h1
    exact fown_at h

theorem own_cap {B : Nat} {e : TypeId} {s n c : Nat} {ao : Option Addr} {xs : List Value} {w : World} (h : w.ownsRow B e s (.slice ao n c) n xs) : n ≤ c ∧ c ≤ maxLen := by
  rcases h.2 with ⟨h1, h2⟩ | ⟨g, cap, cur, h1, _, _, h3, h4, _⟩
  · simp only [Value.slice.injEq] at h1
    obtain ⟨_, _, rfl⟩ := h1
    subst h2
    exact ⟨Nat.le_refl _, Nat.zero_le _⟩
  · simp only [Value.slice.injEq] at h1
    obtain ⟨_, _, rfl⟩ := h1
    exact ⟨h3, h4⟩

theorem gb_refl (w : World) (row : Option Nat) : w.grownBy w row := ⟨rfl, rfl, rfl, Nat.le_refl _, fun _ _ _ => rfl⟩
theorem gb_trans {a b c : World} {row : Option Nat} (h : a.grownBy b row) (k : b.grownBy c row) : a.grownBy c row :=
  ⟨k.os.trans h.os, k.tape.trans h.tape, k.output.trans h.output, Nat.le_trans h.size k.size, fun i hi hne => (k.block i (Nat.lt_of_lt_of_le hi h.size) hne).trans (h.block i hi hne)⟩
theorem gb_below {w w' : World} (h : Below w.heap.size w w') (row : Option Nat) : w.grownBy w' row := ⟨h.os, h.tape, h.output, h.size, fun i hi _ => h.block i hi⟩
theorem gb_drew {a w : World} {row : Option Nat} (h : a.grownBy w row) : a.grownBy w.drew row := ⟨h.os, h.tape, h.output, h.size, h.block⟩
theorem gb_set {a w : World} {g : Nat} (h : a.grownBy w (some g)) (o : Nat) (v : Value) : a.grownBy (w.setCell ⟨g, o, none⟩ v) (some g) :=
  gb_trans h ⟨rfl, rfl, rfl, by simp, fun i hi hne => Below.heap_setCell _ _ _ _ (fun e => hne (by rw [e]))⟩
theorem gb_to {B : Nat} {w w' : World} {row : Option Nat} (h : w.grownBy w' row) (hB : B ≤ w.heap.size) (hr : ∀ k, row = some k → B ≤ k) : Below B w w' := (Below.refl _ _).grown h hB hr
/-- A block that is not the row's stays. -/
theorem gb_has {w w' : World} {row : Option Nat} {g : Nat} {xs : List Value} (h : w.grownBy w' row) (H : Has w g xs) (hne : some g ≠ row) : Has w' g xs :=
  ⟨Nat.lt_of_lt_of_le H.1 h.size, fun i u hu => ⟨(World.cell?_of_block (a := ⟨g, i, none⟩) (h.block g H.1 hne)).trans (H.2 i u hu).1, (World.frozen?_of_block (a := ⟨g, i, none⟩) (h.block g H.1 hne)).trans (H.2 i u hu).2⟩⟩

theorem own_nil (w : World) (B : Nat) (e : TypeId) (s : Nat) : w.ownsRow B e s (.slice none 0 0) 0 [] := ⟨by simp, Or.inl ⟨rfl, rfl⟩⟩

theorem frow_new (w : World) (xs : List Value) (t : TypeId) : FRow (w.alloc (.cells xs.toArray t)) (some ⟨w.heap.size, 0, none⟩) xs := fun _ =>
  ⟨w.heap.size, 0, rfl, by simp, fun i u hu => by rw [World.cell?_alloc_at _ _ _ _ rfl, Nat.zero_add]; simpa using hu⟩

theorem frow_newAt {w : World} {k : Nat} (hk : w.heap.size = k) (xs : List Value) (t : TypeId) : FRow (w.alloc (.cells xs.toArray t)) (some ⟨k, 0, none⟩) xs := hk ▸ frow_new w xs t

theorem run_append_zero {P : Program} (w : World) (t ty e : TypeId) (i : TypeInfo) (ht : P.underlying t = some (.slice e)) (hi : P.info? e = some i) (ao bo : Option Addr) (n c cap : Nat) (hc : n ≤ c) (hnil : ao = none → n = 0) :
    (Builtin.append_ #[t, t] ty #[.slice ao n c, .slice bo 0 cap]).run P w = .ok (.slice ao n c) w := by
  cases ao with
  | none =>
    have := hnil rfl
    subst this
    cases bo <;> simp [Builtin.append_, run_underlying ht, sizeOf, typeInfo, hi, Builtin.lenOf, Builtin.firstCells, loadCells, storeCells, loadCellsFrom]
  | some a => cases bo <;> simp [Builtin.append_, run_underlying ht, sizeOf, typeInfo, hi, Builtin.lenOf, Builtin.firstCells, loadCells, hc, storeCells, loadCellsFrom]

/-- 'append(own, m...)'; what may have turned. -/
theorem wpList_ontoG {P : Program} {ops : Array Oper} {rest : List Oper} {o : Oper} {a : Act} {Q : Exit → Act → World → Prop} (hgd : o.guard = none) (s x : Operand) (t : TypeId)
    (ho : o.op = .call { callee := .builtin .append, args := #[s, x], argTypes := #[t, t] })
    {e : TypeId} {size bytes : Nat} {z : Value} (ht : P.underlying t = some (.slice e)) (hinfo : (P.info? e).map (fun i => (i.zero, i.size, i.bytes)) = some (some z, size, bytes)) (hzs : z.cells.size = size) (hsz : 0 < size) (hby : 0 < bytes)
    {B n k : Nat} {bo ao : Option Addr} {cb cap : Nat} {xs news : List Value} {wr : World}
    (hs : a.eval s = .slice bo n cb) (hx : a.eval x = .slice ao k cap)
    (hown : wr.ownsRow B e size (.slice bo n cb) n xs) (hrow : FRow wr ao news) (hl : news.length = k * size) (hone : ∀ u ∈ news, u.oneCell' = true) (hlen : (n + k) * bytes ≤ 140737488355328) (hB : B ≤ wr.heap.size)
    (h : ∀ ao' cap' w', w'.ownsRow B e size (.slice ao' (n + k) cap') (n + k) (xs ++ news) → (bo = none → k = 0 → ao' = none ∧ cap' = 0) → Below B wr w' → wr.grownBy w' (Value.slice bo n cb).ownBlock → (∀ b, ao' = some ⟨b, 0, none⟩ → (Value.slice bo n cb).ownBlock = some b ∨ wr.heap.size ≤ b) → wpList P ops Q rest (a.put o.dst (.slice ao' (n + k) cap')) w') :
    wpList P ops Q (o :: rest) a wr := by
  obtain ⟨i0, hi, hz0, hz1, hz2⟩ := info_parts hinfo
  have hnn : n + k ≤ (n + k) * bytes := Nat.le_mul_of_pos_right _ hby
  have hcap := own_cap hown
  have hnil : bo = none → n = 0 ∧ cb = 0 := fun hb => by
    subst hb
    rcases hown.2 with ⟨h1, h2⟩ | ⟨g, cap, cur, h1, _⟩
    · simp only [Value.slice.injEq] at h1
      exact ⟨h2, h1.2.2⟩
    · simp at h1
  by_cases h0 : 0 < k
  · have hn0 : 0 < news.length := by rw [hl]; exact Nat.mul_pos h0 hsz
    obtain ⟨b, off, rfl, _, hc⟩ := hrow hn0
    refine wpList_append_lies _ hgd s x t ho B e i0 z size bytes ht hi hz0 hz1 hz2 hzs hsz _ n xs hs hown ⟨b, off, none⟩ k cap news hx hl (fun j u hj => by rw [add_off]; exact hc j u hj) hone h0 ?_ hlen hB _ rfl ?_
    · unfold maxLen; omega
    · intro g' c' w' hown' hgrow hor _
      refine h _ _ w' hown' (fun _ h1 => by omega) (below_grownS hown hB hgrow) hgrow fun b hb => ?_
      simp only [Option.some.injEq, Addr.mk.injEq, and_true] at hb
      subst hb
      rcases hor with e | e
      · exact Or.inl e
      · exact Or.inr (by omega)
  · have hk : k = 0 := by omega
    subst hk
    have hm : news = [] := List.eq_nil_of_length_eq_zero (by omega)
    subst hm
    have h' := h bo cb wr (by simpa using hown) (fun hb _ => ⟨hb, (hnil hb).2⟩) (Below.refl _ _) (gb_refl _ _) (fun b hb => Or.inl (by rw [hb]; rfl))
    rw [Nat.add_zero] at h'
    refine wpList_plain hgd fun K hK => ?_
    unfold Oper.wp execOp
    have hr := run_append_zero wr t o.type e i0 ht hi bo ao n cb cap hcap.1 (fun hb => (hnil hb).1)
    simp only [ho, resolve, invoke, builtin, Sem.run_bind, Sem.run_pure, Result.andThen_ok, List.map_toArray, List.map_cons, List.map_nil, hs, hx, hr]
    exact hK _ _ h'

/-- 'append(own, m...)'. -/
theorem wpList_onto {P : Program} {ops : Array Oper} {rest : List Oper} {o : Oper} {a : Act} {Q : Exit → Act → World → Prop} (hgd : o.guard = none) (s x : Operand) (t : TypeId)
    (ho : o.op = .call { callee := .builtin .append, args := #[s, x], argTypes := #[t, t] })
    {e : TypeId} {size bytes : Nat} {z : Value} (ht : P.underlying t = some (.slice e)) (hinfo : (P.info? e).map (fun i => (i.zero, i.size, i.bytes)) = some (some z, size, bytes)) (hzs : z.cells.size = size) (hsz : 0 < size) (hby : 0 < bytes)
    {B n k : Nat} {bo ao : Option Addr} {cb cap : Nat} {xs news : List Value} {wr : World}
    (hs : a.eval s = .slice bo n cb) (hx : a.eval x = .slice ao k cap)
    (hown : wr.ownsRow B e size (.slice bo n cb) n xs) (hrow : FRow wr ao news) (hl : news.length = k * size) (hone : ∀ u ∈ news, u.oneCell' = true) (hlen : (n + k) * bytes ≤ 140737488355328) (hB : B ≤ wr.heap.size)
    (h : ∀ ao' cap' w', w'.ownsRow B e size (.slice ao' (n + k) cap') (n + k) (xs ++ news) → (bo = none → k = 0 → ao' = none ∧ cap' = 0) → Below B wr w' → wpList P ops Q rest (a.put o.dst (.slice ao' (n + k) cap')) w') :
    wpList P ops Q (o :: rest) a wr :=
  wpList_ontoG hgd s x t ho ht hinfo hzs hsz hby hs hx hown hrow hl hone hlen hB fun ao' cap' w' h1 h2 h3 _ _ => h ao' cap' w' h1 h2 h3

end Go.Proofs.Ytjfgccjdkflfoaa

