import Derived.Test.YtkpnmpjnpcjohaaGreatInsertRs
set_option linter.unusedVariables false
namespace Go.Proofs.YtkpnmpjnpcjohaaGreat
open GeoMath FleetMath PlanMath CertMath AuditMath InsertMath
namespace RepairMath
def j_G(m:Option Mp)(ds:List Drv)(os:List FleetMath.Ord)(r:Rte):Int:=
 match a_o ds r.drv with
 |none=>0
 |some d=>(cost m d os r.stops).getD 0
def b_a(m:Option Mp)(ds:List Drv)(os:List FleetMath.Ord)(p:List Rte):Int:=(p.map (j_G m ds os)).sum
def a_z(m:Option Mp)(ds:List Drv)(os:List FleetMath.Ord)(p:List Rte):Option Int:=if(b_K m ds os p).2.2=0 then some (b_a m ds os p)else none
theorem b_p{m:Option Mp}{ds:List Drv}{os:List FleetMath.Ord}{p:List Rte}{t:Int}(h:a_z m ds os p=some t):(b_K m ds os p).2.2=0∧t=b_a m ds os p:=by
 unfold a_z at h;split at h
 ·injection h with h;exact⟨by assumption,h.symm⟩
 ·cases h
structure PSt where
 out:List Rte
 total:Int
 steps:Nat
def b_e(os:List FleetMath.Ord)(i:Int):List FleetMath.Ord:=os.filter fun o=>!decide (o.id=i)
def c_J(m:Option Mp)(ds:List Drv)(os:List FleetMath.Ord)(p:List Rte)(i:Int)(b:Int):Option (List Rte)×Nat:=
 match find os i with
 |none=>(none,0)
 |some o=>
  if(b_b p i).isSome=false∨a_Q p i=true then(none,0)
  else match a_2 m ds (b_e os i) (a_b p [i]) o b with
   |(s,n,e)=>(if e=0 then b_U (a_b p [i]) i ⟨s.drv,s.pick,s.drop⟩else none,n.toNat)
def a_B(m:Option Mp)(ds:List Drv)(os:List FleetMath.Ord)(b:Nat)(st:PSt)(i:Int):PSt:=
 if b≤st.steps then st
 else match c_J m ds os st.out i ((b-st.steps:Nat):Int)with
  |(none,n)=>⟨st.out,st.total,st.steps+n⟩
  |(some q,n)=>match a_z m ds os q with
   |none=>⟨st.out,st.total,st.steps+n⟩
   |some t=>if t<st.total then⟨q,t,st.steps+n⟩else⟨st.out,st.total,st.steps+n⟩
def idsM(os:List FleetMath.Ord):List Int:=(os.map (·.id)).mergeSort fun x y=>decide (x≤y)
def d_Y(m:Option Mp)(ds:List Drv)(os:List FleetMath.Ord)(b:Nat)(st:PSt):PSt:=(idsM os).foldl (a_B m ds os b) st
section
variable {m : Option Mp} {ds : List Drv} {os : List FleetMath.Ord} {p q : List Rte} {b c : Nat} {st : PSt} {i : Int}
theorem d_e{o:FleetMath.Ord}{b:Int}{s:Sp4}{n e:Int}(h:a_2 m ds os p o b=(s,n,e))(hb:0≤b):0≤n∧n≤b:=by
 unfold a_2 at h;split at h
 ·injection h with _ h;injection h with h _;omega
 ·have hl:=o_x (b:=b.toNat) (s:=(none,0)) (Nat.zero_le _) (p.flatMap (d_h m ds os o))
  unfold d_S at h;split at h
  all_goals
   injection h with _ h;injection h with h _;omega
theorem g_B{n:Nat}{x:Option (List Rte)}{b:Nat}(h:c_J m ds os p i (b:Int)=(x,n)):n≤b:=by
 unfold c_J at h;split at h
 ·injection h with _ h;omega
 ·split at h
  ·injection h with _ h;omega
  ·rename_i o _ _
   obtain⟨⟨s,k,e⟩,hc⟩:∃z,a_2 m ds (b_e os i) (a_b p [i]) o (b:Int)=z:=⟨_,rfl⟩;rw[hc]at h;simp only at h;injection h with _ h;have:=d_e hc (by omega);omega
end
end RepairMath
namespace RepairMath
section
variable {m : Option Mp} {ds : List Drv} {os : List FleetMath.Ord} {p q : List Rte} {b c : Nat} {st : PSt} {i : Int}
theorem l_i{y:Int}(hb:a_Q p i=false):y∈(allS (a_b p [i])).map (·.ord)↔y≠i∧y∈(allS p).map (·.ord):=by
 simp only[allS,a_b,List.mem_map,List.mem_flatMap];constructor
 ·rintro⟨s,⟨r',⟨r,hr,rfl⟩,hs⟩,rfl⟩
  simp only[List.mem_filter,Bool.or_eq_true,Bool.not_eq_true',decide_eq_false_iff_not,List.mem_singleton]at hs;refine⟨fun e=>?_,s,⟨r,hr,hs.1⟩,rfl⟩;rcases hs.2 with h|h
  ·exact h e
  ·rw[e,hb]at h;cases h
 ·rintro⟨hy,s,⟨r,hr,hs⟩,rfl⟩
  refine⟨s,⟨_,⟨r,hr,rfl⟩,?_⟩,rfl⟩;simp only[List.mem_filter,Bool.or_eq_true,Bool.not_eq_true',decide_eq_false_iff_not,List.mem_singleton];exact⟨hs,.inl hy⟩
theorem d_Q{b:Int}{n:Nat}(h:c_J m ds os p i b=(some q,n)):a_Q p i=false∧(b_b p i).isSome=true∧(∃ s,b_U (a_b p [i]) i s=some q)∧1≤n:=by
 unfold c_J at h;split at h
 ·injection h with h _;cases h
 ·split at h
  ·injection h with h _;cases h
  ·rename_i o _ hn
   obtain⟨⟨s,k,e⟩,hc⟩:∃z,a_2 m ds (b_e os i) (a_b p [i]) o b=z:=⟨_,rfl⟩;rw[hc]at h;simp only at h;injection h with h1 h2;split at h1
   ·rename_i he
    subst he;refine⟨by cases hb:a_Q p i with|false=>rfl|true=>exact absurd (.inr hb) hn,by cases hb:(b_b p i).isSome with|true=>rfl|false=>exact absurd (.inl hb) hn,⟨_,h1⟩,?_⟩;unfold a_2 at hc;split at hc
    ·injection hc with _ hc;injection hc with _ hc;cases hc
    ·rw[h_l]at hc
     unfold d_S at hc;split at hc
     ·injection hc with _ hc;injection hc with _ hc;cases hc
     ·rename_i x hx
      injection hc with _ hc;injection hc with hc _;obtain⟨L,hL⟩:∃L,(a_b p [i]).flatMap (d_h m ds (b_e os i) o)=L:=⟨_,rfl⟩;rw[hL]at hx hc
      have h0:min b.toNat L.length≠0:=by
       intro h0
       have:L.take b.toNat=[]:=by
        apply List.eq_nil_of_length_eq_zero;rw[List.length_take];exact h0
       simp only[this]at hx;simp[c_E]at hx
      simp only at hc;omega
   ·cases h1
theorem j_H{b:Int}{n:Nat}(h:c_J m ds os p i b=(some q,n)):a_p q=a_p p:=by
 obtain⟨hb,hf,⟨s,hw⟩,_⟩:=d_Q h;obtain⟨k,x,hW,rfl⟩:=withP_some hw;refine m_4 (b_i _).1 fun y=>((b_i _).2 y).trans ((hW.allMem y).trans ?_);rw[l_i hb];constructor
 ·rintro(rfl|h)
  ·cases hn:b_b p y with
   |none=>rw[hn]at hf;cases hf
   |some z=>
    refine Classical.byContradiction fun hm=>?_;have:b_b p y=none:=findP_none.2 fun x hx s hs e=>hm (List.mem_map.2 ⟨s,List.mem_flatMap.2 ⟨x,hx,hs⟩,e⟩);rw[hn]at this;cases this
  ·exact h.2
 ·intro hy
  by_cases e:y=i
  ·exact .inl e
  ·exact .inr ⟨e,hy⟩
theorem n_H{b:Int}{n:Nat}(h:c_J m ds os p i b=(some q,n))(hr:a_h p=true):b_S p q=true:=by
 obtain⟨_,_,⟨s,hw⟩,_⟩:=d_Q h;exact d_0 (h_J hr) (m_e hw).1
theorem c_B{t:Int}(h:a_z m ds os p=some t):a_h p=true:=by
 have h0:=(b_p h).1;unfold b_K at h0;split at h0
 ·rename_i hw
  simp only[b_y,Bool.and_eq_true]at hw;exact hw.1.1.2
 ·cases h0
structure PInv(m:Option Mp)(ds:List Drv)(os:List FleetMath.Ord)(p:List Rte)(t:Int)(b:Nat)(st:PSt):Prop where
 total:a_z m ds os st.out=some st.total
 kept:b_S p st.out=true
 orders:a_p st.out=a_p p
 le:st.total≤t
 same:st.out≠p→st.total<t
 steps:st.steps≤b
theorem PInv.start{t:Int}(h:a_z m ds os p=some t):PInv m ds os p t b ⟨p,t,0⟩:=
 ⟨h,by rw[h_a];exact c_B h,rfl,by simp,fun h=>absurd rfl h,Nat.zero_le _⟩
theorem c_O(m:Option Mp)(ds:List Drv)(os:List FleetMath.Ord)(b:Nat)(st:PSt)(i:Int):
 (b≤st.steps∧a_B m ds os b st i=st)∨
 (st.steps<b∧∃x n,c_J m ds os st.out i ((b-st.steps:Nat):Int)=(x,n)∧((a_B m ds os b st i=⟨st.out,st.total,st.steps+n⟩∧∀q t,x=some q→a_z m ds os q=some t→¬t<st.total)∨
                                                                     ∃q t,x=some q∧a_z m ds os q=some t∧t<st.total∧a_B m ds os b st i=⟨q,t,st.steps+n⟩)):=by
 unfold a_B;split
 ·exact .inl ⟨by assumption,rfl⟩
 ·refine .inr ⟨by omega,?_⟩
  obtain⟨⟨x,n⟩,hx⟩:∃z,c_J m ds os st.out i ((b-st.steps:Nat):Int)=z:=⟨_,rfl⟩;rw[hx];refine⟨x,n,rfl,?_⟩;cases x with
  |none=>exact .inl ⟨rfl,fun q t h=>by cases h⟩
  |some q=>
   simp only;cases ht:a_z m ds os q with
   |none=>exact .inl ⟨rfl,fun q' t h h2=>by injection h with h;subst h;rw[ht]at h2;cases h2⟩
   |some t=>
    simp only;by_cases hl:t<st.total
    ·rw[if_pos hl];exact .inr ⟨q,t,rfl,ht,hl,rfl⟩
    ·rw[if_neg hl]
     refine .inl ⟨rfl,fun q' t' h h2=>?_⟩;injection h with h;subst h;rw[ht]at h2;injection h2 with h2;subst h2;exact hl
theorem PInv.step{t:Int}(h:PInv m ds os p t b st)(i:Int):PInv m ds os p t b (a_B m ds os b st i):=by
 rcases c_O m ds os b st i with⟨_,e⟩|⟨hb,x,n,hm,⟨e,_⟩|⟨q,t',rfl,ht,hl,e⟩⟩
 ·rw[e];exact h
 ·rw[e]
  have:=g_B hm;exact⟨h.total,h.kept,h.orders,h.le,h.same,by show st.steps+n≤b;omega⟩
 ·rw[e]
  have:=g_B hm;have hle:=h.le;exact⟨ht,d_0 h.kept (n_H hm (c_B h.total)),(j_H hm).trans h.orders,by show t'≤t;omega,fun _=>by show t'<t;omega,by show st.steps+n≤b;omega⟩
theorem PInv.fold{t:Int}(l:List Int)(h:PInv m ds os p t b st):PInv m ds os p t b (l.foldl (a_B m ds os b) st):=by
 induction l generalizing st with
 |nil=>exact h
 |cons x r ih=>exact ih (h.step x)
theorem n_I{t:Int}(h:a_z m ds os p=some t):PInv m ds os p t b (d_Y m ds os b ⟨p,t,0⟩):=(PInv.start h).fold _
theorem j_I(i:Int):st.steps≤(a_B m ds os b st i).steps:=by
 rcases c_O m ds os b st i with⟨_,e⟩|⟨hb,x,n,hm,⟨e,_⟩|⟨q,t',rfl,ht,hl,e⟩⟩
 ·rw[e];exact Nat.le_refl _
 ·rw[e];exact Nat.le_add_right _ _
 ·rw[e];exact Nat.le_add_right _ _
theorem p_8(l:List Int):st.steps≤(l.foldl (a_B m ds os b) st).steps:=by
 induction l generalizing st with
 |nil=>exact Nat.le_refl _
 |cons x r ih=>exact Nat.le_trans (j_I x) ih
theorem j_J(h:(a_B m ds os b st i).out≠st.out):st.steps<(a_B m ds os b st i).steps:=by
 rcases c_O m ds os b st i with⟨h1,e⟩|⟨hb,x,n,hm,⟨e,_⟩|⟨q,t',rfl,ht,hl,e⟩⟩
 ·rw[e]at h;exact absurd rfl h
 ·rw[e]at h;exact absurd rfl h
 ·rw[e]
  have:=(d_Q hm).2.2.2;show st.steps<st.steps+n;omega
theorem j_K(l:List Int)(h:(l.foldl (a_B m ds os b) st).out≠st.out):st.steps<(l.foldl (a_B m ds os b) st).steps:=by
 induction l generalizing st with
 |nil=>exact absurd rfl h
 |cons x r ih=>
  rw[List.foldl_cons]at h ⊢;by_cases hx:(a_B m ds os b st x).out=st.out
  ·exact Nat.lt_of_le_of_lt (j_I x) (ih (by rw[hx];exact h))
  ·exact Nat.lt_of_lt_of_le (j_J hx) (p_8 r)
end
end RepairMath
namespace RepairMath
structure RSt where
 out:List Rte
 steps:Nat
 passes:Nat
instance:DecidableEq Rte:=fun a b=>decidable_of_iff (a.drv=b.drv∧a.served=b.served∧a.stops=b.stops)
 ⟨fun h=>by cases a;cases b;simp only at h;obtain⟨rfl,rfl,rfl⟩:=h;rfl,fun h=>by subst h;exact⟨rfl,rfl,rfl⟩⟩
def c_P(m:Option Mp)(ds:List Drv)(os:List FleetMath.Ord)(b:Nat)(s:RSt):PSt:=d_Y m ds os (b-s.steps) ⟨s.out,b_a m ds os s.out,0⟩
def a_S(m:Option Mp)(ds:List Drv)(os:List FleetMath.Ord)(b:Nat):Nat→RSt→RSt
 |0,s=>s
 |k+1,s=>
  if b≤s.steps then s
  else if(c_P m ds os b s).out=s.out then⟨s.out,s.steps+(c_P m ds os b s).steps,s.passes+1⟩
  else a_S m ds os b k ⟨(c_P m ds os b s).out,s.steps+(c_P m ds os b s).steps,s.passes+1⟩
def b_q(m:Option Mp)(ds:List Drv)(os:List FleetMath.Ord)(p:List Rte)(b:Int):Option RSt:=
 match a_z m ds os p with
 |none=>none
 |some _=>if b<0∨100000<b then none else some (a_S m ds os b.toNat (b.toNat+1) ⟨p,0,0⟩)
section
variable {m : Option Mp} {ds : List Drv} {os : List FleetMath.Ord} {p q : List Rte} {b c : Nat} {s : RSt} {k : Nat} {t : Int}
theorem l_j(h:b≤s.steps):a_S m ds os b k s=s:=by
 cases k with
 |zero=>rfl
 |succ k=>rw[a_S,if_pos h]
theorem l_k(h:s.steps<b)(hk:0<k)(ho:(c_P m ds os b s).out=s.out):a_S m ds os b k s=⟨s.out,s.steps+(c_P m ds os b s).steps,s.passes+1⟩:=by
 cases k with
 |zero=>omega
 |succ k=>rw[a_S,if_neg (by omega),if_pos ho]
theorem l_l(h:s.steps<b)(ho:(c_P m ds os b s).out≠s.out):a_S m ds os b (k+1) s=a_S m ds os b k ⟨(c_P m ds os b s).out,s.steps+(c_P m ds os b s).steps,s.passes+1⟩:=by
 rw[a_S,if_neg (by omega),if_neg ho]
theorem d_f(ho:(c_P m ds os b s).out≠s.out):0<(c_P m ds os b s).steps:=j_K (st:=⟨s.out,b_a m ds os s.out,0⟩) _ ho
theorem l_m{k':Nat}(h:b-s.steps<k)(h':b-s.steps<k'):a_S m ds os b k s=a_S m ds os b k' s:=by
 induction k generalizing k' s with
 |zero=>omega
 |succ k ih=>
  cases k' with
  |zero=>omega
  |succ k'=>
   rw[a_S,a_S];split
   ·rfl
   ·split
    ·rfl
    ·rename_i h1 h2
     have:=d_f h2;exact ih (by simp only;omega) (by simp only;omega)
structure RInv(m:Option Mp)(ds:List Drv)(os:List FleetMath.Ord)(p:List Rte)(t:Int)(b:Nat)(s:RSt):Prop where
 total:a_z m ds os s.out=some (b_a m ds os s.out)
 kept:b_S p s.out=true
 orders:a_p s.out=a_p p
 le:b_a m ds os s.out≤t
 same:s.out≠p→b_a m ds os s.out<t
 steps:s.steps≤b
theorem h_A(h:a_z m ds os p=some t):a_z m ds os p=some (b_a m ds os p):=by rw[h,(b_p h).2]
theorem RInv.start(h:a_z m ds os p=some t):RInv m ds os p t b ⟨p,0,0⟩:=
 ⟨h_A h,by rw[h_a];exact c_B h,rfl,by rw[(b_p h).2];exact Int.le_refl _,fun h=>absurd rfl h,Nat.zero_le _⟩
theorem RInv.pass(h:RInv m ds os p t b s):PInv m ds os s.out (b_a m ds os s.out) (b-s.steps) (c_P m ds os b s):=n_I h.total
theorem RInv.next(h:RInv m ds os p t b s)(x:Nat):RInv m ds os p t b ⟨(c_P m ds os b s).out,s.steps+(c_P m ds os b s).steps,x⟩:=by
 have hp:=h.pass;have e:=(b_p hp.total).2;have hl:=hp.le;have hl2:=h.le;have hs:=h.steps;have hs2:=hp.steps;refine⟨h_A hp.total,d_0 h.kept hp.kept,hp.orders.trans h.orders,by simp only;omega,fun hn=>?_,by simp only;omega⟩;simp only at hn ⊢;by_cases hx:(c_P m ds os b s).out=s.out
 ·have:=h.same (by rw[← hx];exact hn)
  rw[hx];exact this
 ·have:=hp.same hx
  omega
theorem RInv.go(h:RInv m ds os p t b s)(k:Nat):RInv m ds os p t b (a_S m ds os b k s):=by
 induction k generalizing s with
 |zero=>exact h
 |succ k ih=>
  rw[a_S];split
  ·exact h
  ·split
   ·rename_i ho
    have:=h.next (s.passes+1);rw[ho]at this;exact this
   ·exact ih (h.next _)
theorem f_m{b:Int}(h:a_z m ds os p=some t)(hb:0≤b)(hc:b≤100000):b_q m ds os p b=some (a_S m ds os b.toNat (b.toNat+1) ⟨p,0,0⟩):=by
 unfold b_q;rw[h];simp only;rw[if_neg (by omega)]
theorem n_J{b:Int}{r:RSt}(h:b_q m ds os p b=some r):0≤b∧b≤100000∧(r.steps:Int)≤b∧∃t u,a_z m ds os p=some t∧a_z m ds os r.out=some u∧u≤t∧(u=t↔r.out=p)∧b_S p r.out=true∧a_p r.out=a_p p:=by
 unfold b_q at h;split at h
 ·cases h
 ·rename_i t ht
  split at h
  ·cases h
  ·injection h with h
   have hI:=(RInv.start (b:=b.toNat) ht).go (b.toNat+1);rw[h]at hI;obtain⟨k1,k2,k3,k4,k5,k6⟩:=hI;refine⟨by omega,by omega,by omega,t,_,ht,k1,k4,⟨fun e=>?_,fun e=>?_⟩,k2,k3⟩
   ·refine Classical.byContradiction fun hne=>?_
    have:=k5 hne;omega
   ·rw[e,(b_p ht).2]
end
end RepairMath
namespace RepairMath
open Go.Proofs.YtkpnmpjnpcjohaaGreat.Insert
section
variable {m : Option Mp} {ds : List Drv} {os : List FleetMath.Ord} {p q : List Rte} {i t : Int}
theorem h_B(h:a_V m os=true):Dist os:=by
 simp only[a_V,decide_eq_true_eq]at h;exact h.2.2
theorem d_R(h:a_z m ds os p=some t):b_y m ds os p=true∧∀r∈p,∃d,a_o ds r.drv=some d∧(a_J m d os r.stops).2.2=0:=make_zero.1 (b_p h).1
def g_C(m:Option Mp)(ds:List Drv)(os:List FleetMath.Ord)(p:List Rte)(k:Nat):Int:=b_a m ds os (p.take k)
theorem p_9:g_C m ds os p 0=0:=by simp[g_C,b_a]
theorem q_a{k:Nat}{r:Rte}(h:p[k]?=some r):g_C m ds os p (k+1)=g_C m ds os p k+j_G m ds os r:=by
 unfold g_C b_a;rw[List.take_add_one,h];simp
theorem r_R{k:Nat}(h:p.length≤k):g_C m ds os p k=b_a m ds os p:=by
 unfold g_C;rw[List.take_of_length_le h]
theorem n_K{r:Rte}{d:Drv}(h:a_o ds r.drv=some d):j_G m ds os r=oldC m d os r.stops:=by
 unfold j_G oldC;rw[h]
theorem l_n{r:Rte}(hm:Near m)(hl:r.stops.length≤100):0≤j_G m ds os r∧j_G m ds os r≤100000000:=by
 unfold j_G;split
 ·omega
 ·exact i_O hm hl
theorem q_b{l:List Int}(h:∀x∈l,0≤x∧x≤100000000):0≤l.sum∧l.sum≤100000000*(l.length:Int):=by
 induction l with
 |nil=>simp
 |cons x r ih=>
  have h1:=h x (by simp);have h2:=ih fun y hy=>h y (List.mem_cons_of_mem _ hy);rw[List.sum_cons,List.length_cons];omega
theorem n_L(hm:Near m)(hr:a_h p=true)(k:Nat):0≤g_C m ds os p k∧g_C m ds os p k≤800000000:=by
 have h:=q_b (l:=(p.take k).map (j_G m ds os)) fun x hx=>by
  obtain⟨r,h1,rfl⟩:=List.mem_map.1 hx;have:=c_0 (a_R hr (List.mem_of_mem_take h1));exact l_n hm (by omega)
 rw[List.length_map,List.length_take]at h;have:=b_2 hr;unfold g_C b_a;omega
end
end RepairMath
namespace RepairMath
theorem r_S{m:Mp}{d:Drv}{os:List FleetMath.Ord}{o:Int}(stops:List Stp)(seen:List Stp)(st:St)(x:St×List Vis)(k:Nat)(h:run m d os seen st stops=.ok x)(ho:Stp.mk o true∈stops):
 Stp.mk o false∈seen∨(Stp.mk o false∈stops∧c_h stops ⟨o,false⟩ k<c_h stops ⟨o,true⟩ k):=by
 induction stops generalizing seen st x k with
 |nil=>cases ho
 |cons s r ih=>
  unfold run at h;split at h
  ·cases h
  ·rename_i st' v hst
   split at h
   ·cases h
   ·rename_i st'' vs hr
    by_cases hs:s=⟨o,true⟩
    ·subst hs
     left;unfold FleetMath.step at hst;split at hst
     ·cases hst
     ·split at hst
      ·cases hst
      ·split at hst
       ·cases hst
       ·rename_i hn
        exact Classical.not_not.1 fun hh=>hn ⟨rfl,hh⟩
    ·have hr':Stp.mk o true∈r:=by
      rcases List.mem_cons.1 ho with e|e
      ·exact absurd e.symm hs
      ·exact e
     have e2:c_h (s::r) ⟨o,true⟩ k=c_h r ⟨o,true⟩ (k+1):=by rw[b_o,if_neg hs]
     by_cases hp:s=⟨o,false⟩
     ·right
      refine⟨by rw[hp];exact List.mem_cons_self,?_⟩;rw[e2,b_o,if_pos hp];have:=d_9 hr' (k+1);omega
     ·rcases ih (seen++[s]) st' _ (k+1) hr hr' with h1|⟨h1,h2⟩
      ·rcases List.mem_append.1 h1 with h1|h1
       ·exact .inl h1
       ·exact absurd (List.mem_singleton.1 h1).symm hp
      ·right
       refine⟨List.mem_cons_of_mem _ h1,?_⟩;rw[e2,b_o,if_neg hp];exact h2
theorem q_c{m:Option Mp}{d:Drv}{os:List FleetMath.Ord}{stops:List Stp}{o:Int}(h:(a_J m d os stops).2.2=0)(ho:Stp.mk o true∈stops):Stp.mk o false∈stops∧idxS stops ⟨o,false⟩<idxS stops ⟨o,true⟩:=by
 obtain⟨m',st,_,hr,_⟩:=b_F h;rcases r_S stops [] _ _ 0 hr ho with h1|h1
 ·cases h1
 ·exact h1
theorem l_3{l:List Stp}{s:Stp}(n k:Nat):s∈l.take n↔s∈l∧c_h l s k<((k+n:Nat):Int):=by
 induction l generalizing n k with
 |nil=>simp
 |cons x r ih=>
  cases n with
  |zero=>
   simp only[List.take_zero,List.not_mem_nil,false_iff,Nat.add_zero];rintro⟨h1,h2⟩;have:=d_9 h1 k;omega
  |succ n=>
   rw[List.take_succ_cons,List.mem_cons,List.mem_cons,ih n (k+1),b_o];by_cases e:x=s
   ·subst e
    rw[if_pos rfl];constructor
    ·intro _;exact⟨.inl rfl,by omega⟩
    ·intro _;exact .inl rfl
   ·rw[if_neg e]
    constructor
    ·rintro(h|⟨h1,h2⟩)
     ·exact absurd h.symm e
     ·exact⟨.inr h1,by omega⟩
    ·rintro⟨h1|h1,h2⟩
     ·exact absurd h1.symm e
     ·exact .inr ⟨h1,by omega⟩
theorem r_T{x:Rte}{o:Int}(hs:0≤x.served)(hp:Stp.mk o false∈x.stops)(hd:Stp.mk o true∈x.stops→idxS x.stops ⟨o,false⟩<idxS x.stops ⟨o,true⟩):
 (b_G x).any (fun s=>decide (s.ord=o))=decide (idxS x.stops ⟨o,false⟩<x.served):=by
 have key:(∃ s∈b_G x,s.ord=o)↔idxS x.stops ⟨o,false⟩<x.served:=by
  unfold b_G;constructor
  ·rintro⟨⟨so,f⟩,h1,h2⟩
   simp only at h2;subst h2;obtain⟨h3,h4⟩:=(l_3 x.served.toNat 0).1 h1;cases f with
   |false=>unfold idxS;omega
   |true=>
    have:=hd h3;unfold idxS at this ⊢;omega
  ·intro h
   exact⟨⟨o,false⟩,(l_3 x.served.toNat 0).2 ⟨hp,by unfold idxS at h;omega⟩,rfl⟩
 rw[Bool.eq_iff_iff,List.any_eq_true];simp only[decide_eq_true_eq];exact key
def movR(s:Spt)(r:Rte):Bool:=(r.drv==s.drv) && decide (r.served≤s.pick)
def c_K(p:List Rte)(o:Int):Bool:=match b_b p o with
 |none=>false
 |some s=>p.any (movR s)
theorem s_h{α:Type}{R:α→α→Prop}{l:List α}(h:l.Pairwise R){x y:α}(hx:x∈l)(hy:y∈l):x=y∨R x y∨R y x:=by
 induction h with
 |nil=>cases hx
 |cons h1 _ ih=>
  rcases List.mem_cons.1 hx with e1|k1
  ·rcases List.mem_cons.1 hy with e2|k2
   ·exact .inl (e1.trans e2.symm)
   ·exact .inr (.inl (by rw[e1];exact h1 _ k2))
  ·rcases List.mem_cons.1 hy with e2|k2
   ·exact .inr (.inr (by rw[e2];exact h1 _ k1))
   ·exact ih k1 k2
theorem q_d{p:List Rte}{o:Int}{s:Spt}(h:b_b p o=some s):∃x∈p,s.drv=x.drv∧s.pick=idxS x.stops ⟨o,false⟩∧(Stp.mk o false∈x.stops∨Stp.mk o true∈x.stops):=by
 induction p with
 |nil=>cases h
 |cons x r ih=>
  rw[e_V]at h;split at h
  ·rename_i hc
   injection h with h;subst h;exact⟨x,List.mem_cons_self,rfl,rfl,hc.imp idxS_iff.1 idxS_iff.1⟩
  ·obtain⟨y,hy,h2⟩:=ih h
   exact⟨y,List.mem_cons_of_mem _ hy,h2⟩
theorem l_o{p:List Rte}{o:Int}(hr:a_h p=true)(hf:∀r∈p,Stp.mk o true∈r.stops→Stp.mk o false∈r.stops∧idxS r.stops ⟨o,false⟩<idxS r.stops ⟨o,true⟩):
 c_K p o=((b_b p o).isSome && !a_Q p o):=by
 unfold c_K;cases h:b_b p o with
 |none=>rfl
 |some s=>
  simp only[Option.isSome_some,Bool.true_and];obtain⟨x,hx,h1,h2,h3⟩:=q_d h
  have hp:Stp.mk o false∈x.stops:=by
   rcases h3 with h3|h3
   ·exact h3
   ·exact(hf x hx h3).1
  have hdist:p.Pairwise fun a b=>a.drv<b.drv:=by
   simp only[a_h,Bool.and_eq_true,decide_eq_true_eq]at hr;exact hr.1.2
  have hall:(allS p).Pairwise (·≠·):=by
   simp only[a_h,Bool.and_eq_true,decide_eq_true_eq]at hr;exact hr.2
  have hno:∀y∈p,y≠x→∀s∈y.stops,s.ord≠o:=by
   intro y hy hne s hs he
   have hpy:Stp.mk o false∈y.stops:=by
    obtain⟨so,f⟩:=s;simp only at he;subst he;cases f with
    |false=>exact hs
    |true=>exact(hf y hy hs).1
   unfold allS at hall;rw[List.pairwise_flatMap]at hall;rcases s_h hall.2 hx hy with e|e|e
   ·exact hne e.symm
   ·exact e _ hp _ hpy rfl
   ·exact e _ hpy _ hp rfl
  have hb:a_Q p o=decide (idxS x.stops ⟨o,false⟩<x.served):=by
   rw[← r_T (d_a hr hx) hp fun h=>(hf x hx h).2];rw[Bool.eq_iff_iff];unfold a_Q;rw[List.any_eq_true];constructor
   ·rintro⟨y,hy,hd⟩
    by_cases e:y=x
    ·rw[← e];exact hd
    ·obtain⟨s,hs,he⟩:=List.any_eq_true.1 hd
     exact absurd (by simpa using he) (hno y hy e s (List.mem_of_mem_take hs))
   ·exact fun hd=>⟨x,hx,hd⟩
  rw[hb,Bool.eq_iff_iff,List.any_eq_true];constructor
  ·rintro⟨y,hy,hm⟩
   unfold movR at hm;simp only[Bool.and_eq_true,beq_iff_eq,decide_eq_true_eq]at hm
   have e:y=x:=by
    rcases s_h hdist hy hx with e|e|e
    ·exact e
    ·omega
    ·omega
   subst e;simp only[Bool.not_eq_true',decide_eq_false_iff_not];omega
  ·intro hm
   simp only[Bool.not_eq_true',decide_eq_false_iff_not]at hm;refine⟨x,hx,?_⟩;unfold movR;simp only[Bool.and_eq_true,beq_iff_eq,decide_eq_true_eq];omega
section
variable {m : Option Mp} {ds : List Drv} {os : List FleetMath.Ord} {p q : List Rte} {b : Nat} {st : PSt} {o : FleetMath.Ord} {t : Int}
def g_D(m:Option Mp)(ds:List Drv)(os:List FleetMath.Ord)(p:List Rte)(o:FleetMath.Ord)(b:Int):List Rte×Nat:=
 match a_2 m ds (b_e os o.id) (a_b p [o.id]) o b with
 |(s,n,e)=>(if e=0 then(b_U (a_b p [o.id]) o.id ⟨s.drv,s.pick,s.drop⟩).getD []else p,n.toNat)
def q_e(m:Option Mp)(ds:List Drv)(os:List FleetMath.Ord)(b:Nat)(st:PSt)(o:FleetMath.Ord):PSt:=
 if c_K st.out o.id=true then
  match g_D m ds os st.out o ((b-st.steps:Nat):Int)with
  |(q,n)=>match a_z m ds os q with
   |none=>⟨st.out,st.total,st.steps+n⟩
   |some t=>if t<st.total then⟨q,t,st.steps+n⟩else⟨st.out,st.total,st.steps+n⟩
 else st
theorem i_r(h:a_z m ds os p=some t)(i:Int):c_K p i=((b_b p i).isSome && !a_Q p i):=by
 obtain⟨hw,hall⟩:=d_R h;obtain⟨_,_,_,_,hr,_,_⟩:=a_K hw;refine l_o hr fun r hr' ho=>?_;obtain⟨d,_,h2⟩:=hall r hr';exact q_c h2 ho
theorem s_3(h:a_z m ds os st.out=some st.total)(ho:o∈os)(hb:st.steps<b):q_e m ds os b st o=a_B m ds os b st o.id:=by
 obtain⟨hw,_⟩:=d_R h;obtain⟨_,_,_,hk,_,_,_⟩:=a_K hw;have hfd:find os o.id=some o:=l_K (h_B hk) ho;have hm:=i_r h o.id;unfold q_e a_B;rw[if_neg (by omega:¬b≤st.steps)];by_cases hv:c_K st.out o.id=true
 ·rw[if_pos hv]
  rw[hm]at hv
  have hmv:c_J m ds os st.out o.id ((b-st.steps:Nat):Int)=(match a_2 m ds (b_e os o.id) (a_b st.out [o.id]) o ((b-st.steps:Nat):Int)with
   |(s,n,e)=>(if e=0 then b_U (a_b st.out [o.id]) o.id ⟨s.drv,s.pick,s.drop⟩else none,n.toNat)):=by
   unfold c_J;rw[hfd];simp only;rw[if_neg];rintro(h1|h1)
   ·rw[h1]at hv;simp at hv
   ·rw[h1]at hv;simp at hv
  rw[hmv];unfold g_D;obtain⟨⟨s,n,e⟩,hc⟩:∃z,a_2 m ds (b_e os o.id) (a_b st.out [o.id]) o ((b-st.steps:Nat):Int)=z:=⟨_,rfl⟩;rw[hc];simp only;by_cases he:e=0
  ·subst he
   obtain⟨q,hq,_,_⟩:=i_M hc;rw[if_pos rfl,if_pos rfl,hq];rfl
  ·rw[if_neg he,if_neg he]
   simp only[h,Int.lt_irrefl,if_false]
 ·rw[if_neg hv]
  have hmv:c_J m ds os st.out o.id ((b-st.steps:Nat):Int)=(none,0):=by
   unfold c_J;rw[hfd];simp only;rw[if_pos];rw[hm]at hv;cases h1:(b_b st.out o.id).isSome with
   |false=>exact .inl rfl
   |true=>
    rw[h1]at hv;cases h2:a_Q st.out o.id with
    |false=>rw[h2]at hv;exact absurd rfl hv
    |true=>exact .inr rfl
  rw[hmv];rfl
theorem t_E{l:List FleetMath.Ord}(hp:l.Perm os)(hs:l.Pairwise fun a b=>a.id≤b.id):l.map (·.id)=idsM os:=by
 unfold idsM;refine(hp.map _).trans (List.mergeSort_perm _ _).symm |>.eq_of_pairwise (le:=fun a b:Int=>a≤b) (fun a b _ _ h1 h2=>Int.le_antisymm h1 h2) ?_ ?_
 ·rw[List.pairwise_map];exact hs
 ·have:=List.pairwise_mergeSort (le:=fun x y:Int=>decide (x≤y)) (fun a b c h1 h2=>by simp only[decide_eq_true_eq]at *;omega) (fun a b=>by simp only[Bool.or_eq_true,decide_eq_true_eq];omega) (os.map (·.id))
  exact this.imp fun h=>by simpa using h
def c_C(m:Option Mp)(ds:List Drv)(os:List FleetMath.Ord)(b:Nat)(st:PSt)(l:List FleetMath.Ord)(k:Nat):PSt:=((l.take k).map (·.id)).foldl (a_B m ds os b) st
theorem l_p{l:List FleetMath.Ord}:c_C m ds os b st l 0=st:=by simp[c_C]
theorem l_q{l:List FleetMath.Ord}{k:Nat}(h:l[k]?=some o):c_C m ds os b st l (k+1)=a_B m ds os b (c_C m ds os b st l k) o.id:=by
 unfold c_C;rw[List.take_add_one,h,List.map_append,List.foldl_append];rfl
theorem n_M{l:List FleetMath.Ord}{k:Nat}(hl:l.length≤k)(hi:l.map (·.id)=idsM os):c_C m ds os b st l k=d_Y m ds os b st:=by
 unfold c_C d_Y;rw[List.take_of_length_le hl,hi]
theorem q_f(l:List Int)(h:b≤st.steps):l.foldl (a_B m ds os b) st=st:=by
 induction l with
 |nil=>rfl
 |cons x r ih=>
  rw[List.foldl_cons,show a_B m ds os b st x=st by unfold a_B;rw[if_pos h],ih]
theorem l_r{l:List FleetMath.Ord}{k:Nat}(h:b≤(c_C m ds os b st l k).steps)(hi:l.map (·.id)=idsM os):c_C m ds os b st l k=d_Y m ds os b st:=by
 have e:d_Y m ds os b st=((l.drop k).map (·.id)).foldl (a_B m ds os b) (c_C m ds os b st l k):=by
  unfold d_Y c_C;rw[← List.foldl_append,←List.map_append,List.take_append_drop,hi]
 rw[e,q_f _ h]
theorem n_N(h:a_z m ds os p=some t)(l:List FleetMath.Ord)(k:Nat):PInv m ds os p t b (c_C m ds os b ⟨p,t,0⟩ l k):=(PInv.start h).fold _
theorem r_U{n:Nat}(h:(g_D m ds os p o (b:Int)).2=n):n≤b:=by
 subst h;unfold g_D;obtain⟨⟨s,k,e⟩,hc⟩:∃z,a_2 m ds (b_e os o.id) (a_b p [o.id]) o (b:Int)=z:=⟨_,rfl⟩;rw[hc];have:=d_e hc (by omega);simp only;omega
theorem j_L(hk:a_V m os=true):∀o∈os,1≤o.id∧o.id≤1000000:=fun o ho=>by
 obtain⟨_,_,h⟩:=ordE_ok.1 ((known_iff.1 hk).2.1 o ho);exact h.id
end
end RepairMath
end Go.Proofs.YtkpnmpjnpcjohaaGreat
