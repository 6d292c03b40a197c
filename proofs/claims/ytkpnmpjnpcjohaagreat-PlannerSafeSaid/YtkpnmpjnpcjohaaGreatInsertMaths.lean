import Derived.Test.YtkpnmpjnpcjohaaGreatAuditMaths
set_option linter.unusedVariables false
namespace Go.Proofs.YtkpnmpjnpcjohaaGreat
open GeoMath FleetMath PlanMath CertMath
namespace InsertMath
structure Sp4 where
 drv:Int
 pick:Int
 drop:Int
 cost:Int
deriving DecidableEq
abbrev sp0:Sp4:=⟨0,0,0,0⟩
def a_u(b x:Option Sp4):Option Sp4:=
 match x with
 |none=>b
 |some y=>match b with
  |none=>some y
  |some z=>if y.cost<z.cost then some y else some z
theorem f_f(b:Option Sp4):a_u b none=b:=rfl
theorem h_Z(y:Sp4):a_u none (some y)=some y:=rfl
theorem a_X{y z:Sp4}(h:y.cost<z.cost):a_u (some z) (some y)=some y:=by unfold a_u;simp only;rw[if_pos h]
theorem a_Y{y z:Sp4}(h:¬y.cost<z.cost):a_u (some z) (some y)=some z:=by unfold a_u;simp only;rw[if_neg h]
theorem b_E(x:Option Sp4):a_u none x=x:=by cases x<;>rfl
theorem h_0(a b c:Option Sp4):a_u (a_u a b) c=a_u a (a_u b c):=by
 cases c with
 |none=>rfl
 |some z=>
  cases b with
  |none=>rfl
  |some y=>
   cases a with
   |none=>rw[h_Z,b_E]
   |some x=>
    by_cases h1:y.cost<x.cost
    ·rw[a_X h1]
     by_cases h2:z.cost<y.cost
     ·rw[a_X h2,a_X (by omega)]
     ·rw[a_Y h2,a_X h1]
    ·rw[a_Y h1]
     by_cases h2:z.cost<y.cost
     ·rw[a_X h2]
     ·rw[a_Y h2,a_Y h1,a_Y (by omega)]
def c_E(l:List (Option Sp4)):Option Sp4:=l.foldl a_u none
theorem h_k(l:List (Option Sp4))(a:Option Sp4):l.foldl a_u a=a_u a (c_E l):=by
 unfold c_E;induction l generalizing a with
 |nil=>rfl
 |cons x r ih=>rw[List.foldl_cons,List.foldl_cons,ih,ih (a_u none x),b_E,h_0]
theorem f_S(x:Option Sp4)(l:List (Option Sp4)):c_E (x::l)=a_u x (c_E l):=by
 show(x::l).foldl a_u none=_;rw[List.foldl_cons,b_E,h_k]
theorem bestOf_none{l:List (Option Sp4)}:c_E l=none↔∀x∈l,x=none:=by
 induction l with
 |nil=>exact⟨fun _ x h=>(by cases h),fun _=>rfl⟩
 |cons x r ih=>
  rw[f_S];constructor
  ·intro h
   cases x with
   |none=>
    rw[b_E]at h;intro y hy;rcases List.mem_cons.1 hy with rfl|hy
    ·rfl
    ·exact ih.1 h y hy
   |some z=>
    cases hb:c_E r with
    |none=>rw[hb]at h;cases h
    |some y=>
     rw[hb]at h;by_cases hc:y.cost<z.cost
     ·rw[a_X hc]at h;cases h
     ·rw[a_Y hc]at h;cases h
  ·intro h
   rw[h x (by simp),b_E];exact ih.2 fun y hy=>h y (List.mem_cons_of_mem _ hy)
theorem k_o{l:List (Option Sp4)}{s:Sp4}(h:c_E l=some s):∃k:Nat,l[k]?=some (some s)∧∀(j:Nat) (y:Sp4),l[j]?=some (some y)→s.cost≤y.cost∧(j<k→s.cost<y.cost):=by
 induction l generalizing s with
 |nil=>cases h
 |cons x r ih=>
  rw[f_S]at h;cases hb:c_E r with
  |none=>
   rw[hb]at h;have hx:x=some s:=h;subst hx;have hn:=bestOf_none.1 hb;refine⟨0,rfl,fun j y hy=>?_⟩;cases j with
   |zero=>simp at hy;subst hy;exact⟨Int.le_refl _,fun h=>absurd h (by omega)⟩
   |succ j=>have:=hn _ (List.mem_of_getElem? (l:=r) (i:=j) (by simpa using hy));cases this
  |some z=>
   rw[hb]at h;obtain⟨k,hk,hall⟩:=ih hb;cases x with
   |none=>
    rw[b_E]at h;injection h with h;subst h;refine⟨k+1,by simpa using hk,fun j y hy=>?_⟩;cases j with
    |zero=>simp at hy
    |succ j=>
     obtain⟨h1,h2⟩:=hall j y (by simpa using hy);exact⟨h1,fun h=>h2 (by omega)⟩
   |some x=>
    by_cases hc:z.cost<x.cost
    ·rw[a_X hc]at h
     injection h with h;subst h;refine⟨k+1,by simpa using hk,fun j y hy=>?_⟩;cases j with
     |zero=>simp at hy;subst hy;exact⟨by omega,fun _=>hc⟩
     |succ j=>
      obtain⟨h1,h2⟩:=hall j y (by simpa using hy);exact⟨h1,fun h=>h2 (by omega)⟩
    ·rw[a_Y hc]at h
     injection h with h;subst h;refine⟨0,rfl,fun j y hy=>?_⟩;cases j with
     |zero=>simp at hy;subst hy;exact⟨Int.le_refl _,fun h=>absurd h (by omega)⟩
     |succ j=>
      obtain⟨h1,_⟩:=hall j y (by simpa using hy);exact⟨by omega,fun h=>absurd h (by omega)⟩
def rowL(i j n:Nat):List (Nat×Nat):=(List.range' j (n+1-j)).map fun k=>(i,k)
def posL(a n:Nat):List (Nat×Nat):=(List.range' a (n+1-a)).flatMap fun i=>rowL i i n
theorem o_v{i j n:Nat}(h:j≤n):rowL i j n=(i,j)::rowL i (j+1) n:=by
 unfold rowL;rw[show n+1-j=(n+1-(j+1))+1 by omega,List.range'_succ];rfl
theorem q_U{i j n:Nat}(h:n<j):rowL i j n=[]:=by unfold rowL;rw[show n+1-j=0 by omega];rfl
theorem o_w{a n:Nat}(h:a≤n):posL a n=rowL a a n++posL (a+1) n:=by
 unfold posL;rw[show n+1-a=(n+1-(a+1))+1 by omega,List.range'_succ,List.flatMap_cons]
theorem q_V{a n:Nat}(h:n<a):posL a n=[]:=by unfold posL;rw[show n+1-a=0 by omega];rfl
theorem q_W{i j n:Nat}{p:Nat×Nat}:p∈rowL i j n↔p.1=i∧j≤p.2∧p.2≤n:=by
 unfold rowL;simp only[List.mem_map,List.mem_range'_1];constructor
 ·rintro⟨k,hk,rfl⟩;exact⟨rfl,by omega,by omega⟩
 ·rintro⟨h1,h2,h3⟩;exact⟨p.2,by omega,by rw[← h1]⟩
theorem mem_posL{a n:Nat}{p:Nat×Nat}:p∈posL a n↔a≤p.1∧p.1≤p.2∧p.2≤n:=by
 unfold posL;simp only[List.mem_flatMap,List.mem_range'_1,q_W];constructor
 ·rintro⟨i,h1,h2,h3,h4⟩;exact⟨by omega,by omega,by omega⟩
 ·rintro⟨h1,h2,h3⟩;exact⟨p.1,by omega,rfl,h2,h3⟩
abbrev Srch:=Option Sp4×Nat
def goOn(b:Nat)(s:Srch)(c:List (Option Sp4)):Srch:=((c.take (b-s.2)).foldl a_u s.1,s.2+min (b-s.2) c.length)
theorem e_l(b:Nat)(s:Srch):goOn b s []=s:=by unfold goOn;simp
theorem e_m{b:Nat}{s:Srch}(h:b≤s.2)(c:List (Option Sp4)):goOn b s c=s:=by
 unfold goOn;rw[show b-s.2=0 by omega];simp
theorem f_T{b:Nat}{s:Srch}(h:s.2<b)(x:Option Sp4)(c:List (Option Sp4)):goOn b s (x::c)=goOn b (a_u s.1 x,s.2+1) c:=by
 unfold goOn;obtain⟨k,hk⟩:∃k,b-s.2=k+1:=⟨b-s.2-1,by omega⟩;rw[hk,List.take_succ_cons,List.foldl_cons,List.length_cons];simp only;rw[show b-(s.2+1)=k by omega];congr 1
 omega
theorem d_7(b:Nat)(s:Srch)(c e:List (Option Sp4)):goOn b s (c++e)=goOn b (goOn b s c) e:=by
 induction c generalizing s with
 |nil=>rw[e_l,List.nil_append]
 |cons x r ih=>
  by_cases h:s.2<b
  ·rw[List.cons_append,f_T h,f_T h,ih]
  ·rw[e_m (by omega),e_m (s:=s) (by omega),e_m (by omega)]
theorem h_l(b:Nat)(c:List (Option Sp4)):goOn b (none,0) c=(c_E (c.take b),min b c.length):=by
 unfold goOn;simp[c_E]
theorem o_x{b:Nat}{s:Srch}(h:s.2≤b)(c:List (Option Sp4)):(goOn b s c).2≤b:=by
 unfold goOn;simp only;omega
def d_S(s:Srch):Sp4×Int×Int:=
 match s.1 with
 |none=>(sp0,(s.2:Int),20)
 |some x=>(x,(s.2:Int),0)
def oldC(m:Option Mp)(d:Drv)(os:List FleetMath.Ord)(stops:List Stp):Int:=(cost m d os stops).getD 0
def k_p(m:Option Mp)(d:Drv)(os:List FleetMath.Ord)(o:FleetMath.Ord)(stops:List Stp)(p:Nat×Nat):Option Sp4:=
 match cost m d (os++[o]) (putM stops o.id p.1 p.2)with
 |none=>none
 |some c=>some ⟨d.id,p.1,p.2,c-oldC m d os stops⟩
def g_K(m:Option Mp)(d:Drv)(os:List FleetMath.Ord)(o:FleetMath.Ord)(r:Rte):List (Option Sp4):=(posL r.served.toNat r.stops.length).map (k_p m d os o r.stops)
def b_M(m:Option Mp)(d:Drv)(os:List FleetMath.Ord)(r:Rte)(o:FleetMath.Ord)(b:Int):Prop:=
 drvE m d≠0∨ordE m o≠0∨a_V m os=false∨(find os o.id).isSome=true∨r.drv≠d.id∨r.served<0∨(r.stops.length:Int)<r.served∨b<0∨100000<b∨(a_J m d os r.stops).2.2≠0
instance(m:Option Mp)(d:Drv)(os:List FleetMath.Ord)(r:Rte)(o:FleetMath.Ord)(b:Int):Decidable (b_M m d os r o b):=by unfold b_M;infer_instance
def g_L(m:Option Mp)(d:Drv)(os:List FleetMath.Ord)(r:Rte)(o:FleetMath.Ord)(b:Int):Sp4×Int×Int:=
 if b_M m d os r o b then(sp0,0,1)else if d.retired=true then(sp0,0,23)else if 78<r.stops.length then(sp0,0,10)else d_S (goOn b.toNat (none,0) (g_K m d os o r))
def m_D(d:Drv)(r:Rte):Bool:=!d.retired && decide (r.stops.length≤78)
def d_h(m:Option Mp)(ds:List Drv)(os:List FleetMath.Ord)(o:FleetMath.Ord)(r:Rte):List (Option Sp4):=
 match a_o ds r.drv with
 |none=>[]
 |some d=>if m_D d r then g_K m d os o r else []
def b_f(m:Option Mp)(ds:List Drv)(os:List FleetMath.Ord)(p:List Rte)(o:FleetMath.Ord)(b:Int):Prop:=(b_K m ds os p).2.2≠0∨ordE m o≠0∨(find os o.id).isSome=true∨b<0∨100000<b
instance(m:Option Mp)(ds:List Drv)(os:List FleetMath.Ord)(p:List Rte)(o:FleetMath.Ord)(b:Int):Decidable (b_f m ds os p o b):=by unfold b_f;infer_instance
def a_2(m:Option Mp)(ds:List Drv)(os:List FleetMath.Ord)(p:List Rte)(o:FleetMath.Ord)(b:Int):Sp4×Int×Int:=
 if b_f m ds os p o b then(sp0,0,1)else d_S (goOn b.toNat (none,0) (p.flatMap (d_h m ds os o)))
end InsertMath
namespace InsertMath
open AuditMath
theorem m_E(b:Nat)(c:List (Option Sp4)):(∃ s,c_E (c.take b)=some s∧d_S (goOn b (none,0) c)=(s,((min b c.length:Nat):Int),0))∨(c_E (c.take b)=none∧d_S (goOn b (none,0) c)=(sp0,((min b c.length:Nat):Int),20)):=by
 rw[h_l];cases hb:c_E (c.take b)with
 |none=>exact .inr ⟨rfl,rfl⟩
 |some s=>exact .inl ⟨s,rfl,rfl⟩
theorem m_F{m:Option Mp}{d:Drv}{os:List FleetMath.Ord}{o:FleetMath.Ord}{st:List Stp}{p:Nat×Nat}{s:Sp4}(h:k_p m d os o st p=some s):s.drv=d.id∧s.pick=(p.1:Int)∧s.drop=(p.2:Int)∧∃c,cost m d (os++[o]) (putM st o.id p.1 p.2)=some c∧s.cost=c-oldC m d os st:=by
 unfold k_p at h;cases hc:cost m d (os++[o]) (putM st o.id p.1 p.2)with
 |none=>rw[hc]at h;cases h
 |some c=>
  rw[hc]at h;injection h with h;subst h;exact⟨rfl,rfl,rfl,c,rfl,rfl⟩
theorem i_L{os:List FleetMath.Ord}{o:FleetMath.Ord}{id:Int}(h:id≠o.id):find (os++[o]) id=find os id:=by
 unfold find;rw[List.find?_append];have:[o].find? (fun p=>decide (p.id=id))=none:=by simp;exact fun e=>h e.symm
 rw[this];simp
theorem d_8{m:Option Mp}{d:Drv}{os:List FleetMath.Ord}{st:List Stp}(h:(a_J m d os st).2.2=0):∃m',m=some m'∧drvE m d=0∧a_V m os=true∧st.length≤80:=by
 cases m with
 |none=>simp[a_J]at h
 |some m'=>
  by_cases hb:drvE (some m') d≠0∨a_V (some m') os=false∨80<st.length
  ·rw[e_w hb]at h;cases h
  ·refine⟨m',rfl,Decidable.not_not.1 fun hx=>hb (.inl hx),?_,Nat.not_lt.1 fun hx=>hb (.inr (.inr hx))⟩
   cases hk:a_V (some m') os
   ·exact absurd (.inr (.inl hk)) hb
   ·rfl
theorem e_R{m:Option Mp}{d:Drv}{os:List FleetMath.Ord}{st:List Stp}{o:FleetMath.Ord}(h:(a_J m d os st).2.2=0)(hf:find os o.id=none):∀s∈st,s.ord≠o.id:=fun s hs e=>by
 obtain⟨k,hk⟩:=List.mem_iff_getElem?.1 hs;obtain⟨p,hp⟩:=f_9 h hk;rw[e,hf]at hp;cases hp
theorem h_m{m:Option Mp}{d:Drv}{os:List FleetMath.Ord}{st:List Stp}{o:FleetMath.Ord}(h:(a_J m d os st).2.2=0)(hf:find os o.id=none)(hk:a_V m (os++[o])=true):a_J m d (os++[o]) st=a_J m d os st:=by
 have ho:=e_R h hf;obtain⟨m',rfl,h1,h2,h3⟩:=d_8 h;rw[c_Z h1 hk h3,c_Z h1 h2 h3];exact i_5 fun s hs=>i_L (ho s hs)
theorem k_q{m:Mp}{os ps:List FleetMath.Ord}{st:List Stp}(h:∀s∈st,find os s.ord=find ps s.ord)(a:Int):f_8 m os a st=f_8 m ps a st:=by
 induction st generalizing a with
 |nil=>rfl
 |cons s r ih=>
  have hs:e_x os s=e_x ps s:=by unfold e_x;rw[h s (by simp)]
  unfold f_8;rw[hs,ih (fun x hx=>h x (List.mem_cons_of_mem _ hx))]
theorem f_U{m:Option Mp}{d:Drv}{os:List FleetMath.Ord}{st:List Stp}(h:(a_J m d os st).2.2=0):∃c,cost m d os st=some c:=by
 obtain⟨m',rfl,_⟩:=d_8 h;exact⟨_,if_pos h⟩
theorem h_n{m:Option Mp}{d:Drv}{os:List FleetMath.Ord}{st:List Stp}{c:Int}(h:cost m d os st=some c):(a_J m d os st).2.2=0:=by
 unfold cost at h;cases m with
 |none=>cases h
 |some m'=>
  simp only at h;split at h
  ·rename_i h0;exact h0
  ·cases h
theorem o_y{m:Option Mp}{d:Drv}{os:List FleetMath.Ord}{st:List Stp}{o:FleetMath.Ord}(h:(a_J m d os st).2.2=0)(hf:find os o.id=none)(hk:a_V m (os++[o])=true):cost m d (os++[o]) st=cost m d os st:=by
 have h1:=h_m h hf hk;have ho:=e_R h hf;unfold cost;cases m with
 |none=>rfl
 |some m'=>
  simp only;rw[h1,k_q (fun s hs=>i_L (ho s hs))]
theorem l_E{l:List Rte}(h:l.Pairwise fun a b=>a.drv<b.drv){i:Nat}{x:Rte}(hx:l[i]?=some x)(k:Nat):a_L l x.drv k=((k+i:Nat):Int):=by
 induction l generalizing i k with
 |nil=>cases hx
 |cons y r ih=>
  rw[c_e];obtain⟨h1,h2⟩:=List.pairwise_cons.1 h;cases i with
  |zero=>
   obtain rfl:y=x:=by simpa using hx
   rw[if_pos rfl];rfl
  |succ i=>
   have hx':r[i]?=some x:=by simpa using hx
   have:=h1 x (List.mem_of_getElem? hx');rw[if_neg (by omega),ih h2 hx'];congr 1;omega
theorem b_X{l:List Rte}(h:a_h l=true):l.Pairwise (fun a b=>a.drv<b.drv)∧∀r∈l,r.stops.length≤80∧0≤r.served∧r.served≤r.stops.length:=by
 unfold a_h at h;simp only[Bool.and_eq_true,List.all_eq_true,decide_eq_true_eq]at h;refine⟨h.1.2,fun r hr=>?_⟩;have:=h.1.1.2 r hr;unfold e_y at this;rw[decide_eq_true_eq]at this;exact⟨this.2.2.1,this.2.2.2.1,this.2.2.2.2.1⟩
theorem make_zero{m:Option Mp}{ds:List Drv}{os:List FleetMath.Ord}{p:List Rte}:(b_K m ds os p).2.2=0↔b_y m ds os p=true∧∀r∈p,∃d,a_o ds r.drv=some d∧(a_J m d os r.stops).2.2=0:=by
 rw[← e_7 0];unfold b_K;cases hw:b_y m ds os p with
 |false=>simp
 |true=>
  simp only[if_true];cases hx:a_v m ds os 0 p with
  |error y=>
   obtain⟨k,e⟩:=y;have:=f_a hx;simp[this]
  |ok c=>simp
theorem k_r{m:Option Mp}{ds:List Drv}{os:List FleetMath.Ord}{p:List Rte}{o:FleetMath.Ord}{b:Int}{s:Sp4}{n:Int}(h:a_2 m ds os p o b=(s,n,0)):¬b_f m ds os p o b∧∃(i:Nat) (r:Rte) (d:Drv) (pl:Nat×Nat),p[i]?=some r∧a_o ds r.drv=some d∧m_D d r=true∧pl∈posL r.served.toNat r.stops.length∧k_p m d os o r.stops pl=some s:=by
 unfold a_2 at h;by_cases hb:b_f m ds os p o b
 ·rw[if_pos hb]at h
  injection h with _ h;injection h with _ h;cases h
 ·rw[if_neg hb]at h
  refine⟨hb,?_⟩;rcases m_E b.toNat (p.flatMap (d_h m ds os o))with⟨x,hx,h1⟩|⟨_,h1⟩
  ·rw[h1]at h
   injection h with h _;subst h;obtain⟨k,hk,_⟩:=k_o hx;have hmem:=List.mem_of_mem_take (List.mem_of_getElem? hk);obtain⟨r,hr,hc⟩:=List.mem_flatMap.1 hmem;obtain⟨i,hi⟩:=List.mem_iff_getElem?.1 hr;unfold d_h at hc;cases hd:a_o ds r.drv with
   |none=>rw[hd]at hc;cases hc
   |some d=>
    rw[hd]at hc;simp only at hc;split at hc
    ·rename_i ho
     unfold g_K at hc;obtain⟨pl,hpl,hcp⟩:=List.mem_map.1 hc;exact⟨i,r,d,pl,hi,hd,ho,hpl,hcp⟩
    ·cases hc
  ·rw[h1]at h
   injection h with _ h;injection h with _ h;cases h
theorem q_X{m:Option Mp}{ds:List Drv}{os:List FleetMath.Ord}{p:List Rte}{o:FleetMath.Ord}{b:Int}{s:Sp4}{n:Int}(h:a_2 m ds os p o b=(s,n,0)):
 ∃(i:Nat) (r:Rte) (d:Drv),WithAt p o.id ⟨s.drv,s.pick,s.drop⟩ i r∧a_o ds r.drv=some d∧d.retired=false∧r.drv=s.drv∧b_U p o.id ⟨s.drv,s.pick,s.drop⟩=some (p.set i (newR r o.id ⟨s.drv,s.pick,s.drop⟩))∧(b_K m ds (os++[o]) (p.set i (newR r o.id ⟨s.drv,s.pick,s.drop⟩))).2.2=0∧
  (∃ x y,cost m d os r.stops=some x∧cost m d (os++[o]) (newR r o.id ⟨s.drv,s.pick,s.drop⟩).stops=some y∧y-x=s.cost)∧
  ∀j z,j≠i→p[j]?=some z→z.drv≠s.drv∧∃d' c,a_o ds z.drv=some d'∧cost m d' os z.stops=some c∧cost m d' (os++[o]) z.stops=some c:=by
 obtain⟨hb,i,r,d,pl,hi,hd,ho,hpl,hcp⟩:=k_r h;unfold b_f at hb;simp only[not_or,Decidable.not_not]at hb;obtain⟨h1,h2,h3,_,_⟩:=hb;obtain⟨hw,hall⟩:=make_zero.1 h1;obtain⟨m',rfl,hd8,hkn,hrp,hde,hdi⟩:=a_K hw
 have hf:find os o.id=none:=by
  cases hf:find os o.id with
  |none=>rfl
  |some x=>rw[hf]at h3;simp at h3
 obtain⟨e1,e2,e3,c,hc,e4⟩:=m_F hcp;obtain⟨hp1,hp2,hp3⟩:=mem_posL.1 hpl;obtain⟨hpw,hrr⟩:=b_X hrp;have hr:=List.mem_of_getElem? hi;obtain⟨hr1,hr2,hr3⟩:=hrr r hr
 have hid:d.id=r.drv:=by
  have:=List.find?_some hd;simpa using this
 unfold m_D at ho;simp only[Bool.and_eq_true,Bool.not_eq_true',decide_eq_true_eq]at ho;have hdr:∀z∈p,∃d,a_o ds z.drv=some d∧(a_J (some m') d os z.stops).2.2=0:=hall
 have hnew:∀y∈p,∀t∈y.stops,t.ord≠o.id:=fun y hy=>by
  obtain⟨d',_,h5⟩:=hdr y hy;exact e_R h5 hf
 obtain⟨m2,hm2,hok⟩:=ordE_ok.1 h2;have hW:WithAt p o.id ⟨s.drv,s.pick,s.drop⟩ i r:=⟨hi,by simp only;rw[e1,hid],hrp,hok.id,hnew,ho.2,⟨hr2,by simp only;rw[e2];omega⟩,by simp only;rw[e2,e3];omega,by simp only;rw[e3];omega⟩;have hpt:putM r.stops o.id s.pick.toNat s.drop.toNat=putM r.stops o.id pl.1 pl.2:=by rw[e2,e3,Int.toNat_natCast,Int.toNat_natCast]
 have hdc:=h_n hc;obtain⟨_,_,_,hk1,_⟩:=d_8 hdc
 have hwith:b_U p o.id ⟨s.drv,s.pick,s.drop⟩=some (p.set i (newR r o.id ⟨s.drv,s.pick,s.drop⟩)):=by
  have hn:=l_E hpw hi 0;rw[Nat.zero_add,←hid,←e1]at hn;unfold b_U;simp only;rw[hn,if_neg (by omega),Int.toNat_natCast,hi];simp only;rw[if_pos]
  ·unfold putR
   rw[if_pos ⟨by rw[e2];omega,by rw[e2,e3];omega,by rw[e3];omega⟩]
  ·unfold d_g nmb
   simp only[Bool.and_eq_true,decide_eq_true_eq,Option.isNone_iff_eq_none];exact⟨⟨⟨hrp,hok.id⟩,findP_none.2 hnew⟩,ho.2,by rw[e2];omega,by rw[e2,e3];omega,by rw[e3];omega⟩
 obtain⟨d0,hd0,hdr0⟩:=hdr r hr;rw[hd]at hd0;injection hd0 with hd0;subst hd0;obtain⟨x,hx⟩:=f_U hdr0;refine⟨i,r,d,hW,hd,ho.1,by rw[e1,hid],hwith,?_,⟨x,c,hx,by show cost _ d _ (putM r.stops o.id s.pick.toNat s.drop.toNat)=_;rw[hpt];exact hc,?_⟩,fun j z hj hz=>⟨?_,?_⟩⟩
 ·rw[make_zero]
  refine⟨?_,fun z hz=>?_⟩
  ·have hr':=hW.right'
   unfold b_y;rw[hk1,hr',decide_eq_true hd8,decide_eq_true hde,decide_eq_true hdi];rfl
  ·rcases List.mem_or_eq_of_mem_set hz with hz|hz
   ·obtain⟨d',h5,h6⟩:=hdr z hz
    exact⟨d',h5,by rw[h_m h6 hf hk1];exact h6⟩
   ·subst hz
    exact⟨d,hd,by show(a_J _ d _ (putM r.stops o.id s.pick.toNat s.drop.toNat)).2.2=0;rw[hpt];exact hdc⟩
 ·rw[e4];unfold oldC;rw[hx];rfl
 ·intro he
  have h5:=l_E hpw hz 0;have h6:=l_E hpw hi 0;rw[he,e1,hid,h6]at h5;omega
 ·obtain⟨d',h5,h6⟩:=hdr z (List.mem_of_getElem? hz)
  obtain⟨c',hc'⟩:=f_U h6;exact⟨d',c',h5,hc',by rw[o_y h6 hf hk1];exact hc'⟩
section
variable {m : Option Mp} {ds : List Drv} {os : List FleetMath.Ord} {p : List Rte} {o : FleetMath.Ord} {b : Int}
theorem e_S(h:¬b_f m ds os p o b):(b_y m ds os p=true∧∀r∈p,∃d,a_o ds r.drv=some d∧(a_J m d os r.stops).2.2=0)∧ordE m o=0∧(find os o.id).isSome=false∧0≤b∧b≤100000:=by
 unfold b_f at h;simp only[not_or,Decidable.not_not,Int.not_lt]at h;obtain⟨h1,h2,h3,h4,h5⟩:=h;exact⟨make_zero.1 h1,h2,by simpa using h3,h4,h5⟩
theorem o_z(h:¬b_f m ds os p o b){r:Rte}(hr:r∈p){d:Drv}(hd:a_o ds r.drv=some d):¬b_M m d os r o 100000:=by
 obtain⟨⟨hw,hall⟩,h2,h3,_,_⟩:=e_S h;obtain⟨m',rfl,hd8,hkn,hrp,hde,hdi⟩:=a_K hw;obtain⟨_,hrr⟩:=b_X hrp;obtain⟨hr1,hr2,hr3⟩:=hrr r hr;obtain⟨d',h5,h6⟩:=hall r hr;rw[hd]at h5;injection h5 with h5;subst h5
 have hid:d.id=r.drv:=by
  have:=List.find?_some hd;simpa using this
 have hdm:d∈ds:=List.mem_of_find?_eq_some hd;unfold b_M;simp only[not_or,Decidable.not_not,Int.not_lt];exact⟨hde d hdm,h2,by rw[hkn];decide,by rw[h3];decide,hid.symm,hr2,hr3,by decide,by decide,h6⟩
end
end InsertMath
namespace InsertMath
open AuditMath
theorem k_s{d:Int}(hd:d≠0)(l:List (Option Sp4))(h:∀x∈l,∀z,x=some z→z.drv=d)(s:Option Sp4)(hs:∀z,s=some z→z.drv≠0):∀z,l.foldl a_u s=some z→z.drv≠0:=by
 induction l generalizing s with
 |nil=>exact hs
 |cons x r ih=>
  rw[List.foldl_cons];refine ih (fun y hy=>h y (List.mem_cons_of_mem _ hy)) _ fun z hz=>?_;cases x with
  |none=>exact hs z hz
  |some y=>
   have hy:=h (some y) (by simp) y rfl;cases s with
   |none=>injection hz with hz;rw[← hz,hy];exact hd
   |some w=>
    by_cases hc:y.cost<w.cost
    ·rw[a_X hc]at hz;injection hz with hz;rw[← hz,hy];exact hd
    ·rw[a_Y hc]at hz;exact hs z hz
section
variable {m : Option Mp} {ds : List Drv} {os : List FleetMath.Ord} {p : List Rte} {o : FleetMath.Ord} {b : Int}
theorem m_G(h:¬b_f m ds os p o b){r:Rte}(hr:r∈p){d:Drv}(hd:a_o ds r.drv=some d){c:Int}(h1:0≤c)(h2:c≤100000):¬b_M m d os r o c:=by
 have h3:=o_z h hr hd;unfold b_M at h3 ⊢;simp only[not_or]at h3 ⊢;obtain⟨a1,a2,a3,a4,a5,a6,a7,a8,a9,a10⟩:=h3;exact⟨a1,a2,a3,a4,a5,a6,a7,by omega,by omega,a10⟩
theorem t_g(h:¬b_f m ds os p o b){r:Rte}{d:Drv}(hd:a_o ds r.drv=some d):d.id≠0:=by
 obtain⟨⟨hw,_⟩,_⟩:=e_S h;obtain⟨m',rfl,_,_,_,hde,_⟩:=a_K hw;obtain⟨_,_,h1⟩:=drvE_ok.1 (hde d (List.mem_of_find?_eq_some hd));have:=h1.id;omega
theorem o_A(h:¬b_f m ds os p o b){r:Rte}(hr:r∈p){d:Drv}(hd:a_o ds r.drv=some d){bn:Nat}(hbn:bn≤100000){s:Srch}(hs:s.2≤bn){y:Sp4}{n e:Int}(hb:g_L m d os r o ((bn:Int)-(s.2:Int))=(y,n,e)):
 ∃(x:Option Sp4) (j:Nat),n=(j:Int)∧s.2+j≤bn∧goOn bn s (d_h m ds os o r)=(a_u s.1 x,s.2+j)∧(e=0→x=some y)∧(e≠0→x=none)∧∀z,x=some z→z.drv≠0:=by
 unfold g_L at hb;rw[if_neg (m_G h hr hd (by omega) (by omega))]at hb;have hnil:d_h m ds os o r=[]→∃(x:Option Sp4) (j:Nat),(0:Int)=(j:Int)∧s.2+j≤bn∧goOn bn s (d_h m ds os o r)=(a_u s.1 x,s.2+j)∧x=none:=fun hc=>⟨none,0,rfl,hs,by rw[hc,e_l,f_f];rfl,rfl⟩;cases hrt:d.retired with
 |true=>
  rw[if_pos hrt]at hb;injection hb with _ hb;injection hb with h1 h2;subst h1;subst h2;obtain⟨x,j,h3,h4,h5,rfl⟩:=hnil (by unfold d_h m_D;rw[hd];simp[hrt]);exact⟨none,j,h3,h4,h5,fun h=>absurd h (by decide),fun _=>rfl,fun z hz=>(by cases hz)⟩
 |false=>
  rw[if_neg (by rw[hrt];decide)]at hb;by_cases h78:78<r.stops.length
  ·rw[if_pos h78]at hb
   injection hb with _ hb;injection hb with h1 h2;subst h1;subst h2;obtain⟨x,j,h3,h4,h5,rfl⟩:=hnil (by unfold d_h m_D;rw[hd];simp[hrt];omega);exact⟨none,j,h3,h4,h5,fun h=>absurd h (by decide),fun _=>rfl,fun z hz=>(by cases hz)⟩
  ·rw[if_neg h78]at hb
   have hc:d_h m ds os o r=g_K m d os o r:=by unfold d_h m_D;rw[hd];simp[hrt];omega
   rw[hc,show((bn:Int)-(s.2:Int)).toNat=bn-s.2 by omega]at*;obtain⟨x,hx⟩:∃x,((g_K m d os o r).take (bn-s.2)).foldl a_u none=x:=⟨_,rfl⟩
   have hg:goOn bn s (g_K m d os o r)=(a_u s.1 x,s.2+min (bn-s.2) (g_K m d os o r).length):=by
    unfold goOn;rw[h_k,←hx];rfl
   have hn:∀z,x=some z→z.drv≠0:=by
    rw[← hx];refine k_s (t_g h hd) _ (fun c hc z hz=>?_) none fun z hz=>(by cases hz);have hc:=List.mem_of_mem_take hc;unfold g_K at hc;obtain⟨q,_,hq⟩:=List.mem_map.1 hc;rw[hz]at hq;unfold k_p at hq;split at hq
    ·cases hq
    ·injection hq with hq;rw[← hq]
   unfold d_S goOn at hb;simp only[Nat.sub_zero,Nat.zero_add]at hb;rw[hx]at hb;refine⟨x,min (bn-s.2) (g_K m d os o r).length,?_,by omega,hg,?_,?_,hn⟩
   ·cases x<;>injection hb with _ hb<;>injection hb with h1 h2<;>exact h1.symm
   ·intro he
    cases x with
    |none=>injection hb with _ hb;injection hb with h1 h2;rw[he]at h2;exact absurd h2 (by decide)
    |some z=>injection hb with h1 hb;rw[h1]
   ·intro he
    cases x with
    |none=>rfl
    |some z=>injection hb with _ hb;injection hb with h1 h2;exact absurd h2.symm he
end
end InsertMath
namespace InsertMath
open AuditMath
section
variable {m : Option Mp} {ds : List Drv} {os : List FleetMath.Ord} {p q : List Rte} {o : FleetMath.Ord} {b : Int} {s : Sp4} {n : Int}
theorem i_M(h:a_2 m ds os p o b=(s,n,0)):∃q,b_U p o.id ⟨s.drv,s.pick,s.drop⟩=some q∧(b_K m ds (os++[o]) q).2.2=0∧q.length=p.length:=by
 obtain⟨i,r,d,_,_,_,_,h1,h2,_,_⟩:=q_X h;exact⟨_,h1,h2,by simp⟩
end
end InsertMath
end Go.Proofs.YtkpnmpjnpcjohaaGreat
