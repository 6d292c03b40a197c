import Derived.Test.YtkpnmpjnpcjohaaGreatRepairMaths
import Derived.KernelRfl
set_option linter.unusedVariables false
namespace Go.Proofs.YtkpnmpjnpcjohaaGreat
open GeoMath FleetMath PlanMath CertMath AuditMath InsertMath RepairMath
namespace PlannerMath
structure Bk where
 ds:List Drv
 os:List FleetMath.Ord
 pl:List Rte
abbrev bk0:Bk:=⟨[],[],[]⟩
def AscD(l:List Drv):Prop:=l.Pairwise fun a b=>a.id<b.id
def AscO(l:List FleetMath.Ord):Prop:=l.Pairwise fun a b=>a.id<b.id
instance(l:List Drv):Decidable (AscD l):=by unfold AscD;infer_instance
instance(l:List FleetMath.Ord):Decidable (AscO l):=by unfold AscO;infer_instance
def a_q(m:Option Mp)(b:Bk):Bool:=decide (c_a m b.ds b.os b.pl=[]) && decide (b.pl.length=b.ds.length) && decide (AscD b.ds) && decide (AscO b.os)
theorem rightB_iff{m:Option Mp}{b:Bk}:a_q m b=true↔c_a m b.ds b.os b.pl=[]∧b.pl.length=b.ds.length∧AscD b.ds∧AscO b.os:=by
 simp only[a_q,Bool.and_eq_true,decide_eq_true_eq,and_assoc]
def b_H(m:Option Mp)(old next:Bk):Bk×Int:=if a_q m next=true∧b_S old.pl next.pl=true then(next,0)else(bk0,21)
theorem p_i{m:Option Mp}{old next:Bk}(h1:a_q m next=true)(h2:b_S old.pl next.pl=true):b_H m old next=(next,0):=if_pos ⟨h1,h2⟩
theorem p_j{m:Option Mp}{old next x:Bk}{e:Int}(h:b_H m old next=(x,e)):(e=0∧x=next∧a_q m next=true∧b_S old.pl next.pl=true)∨(e=21∧x=bk0):=by
 unfold b_H at h;split at h
 ·rename_i hc;injection h with h1 h2;exact .inl ⟨h2.symm,h1.symm,hc⟩
 ·injection h with h1 h2;exact .inr ⟨h2.symm,h1.symm⟩
def atO(l:List FleetMath.Ord)(i:Int):Nat:=(l.takeWhile fun x=>decide (x.id<i)).length
def atD(l:List Drv)(i:Int):Nat:=(l.takeWhile fun x=>decide (x.id<i)).length
def b_w(l:List FleetMath.Ord)(o:FleetMath.Ord):List FleetMath.Ord:=l.take (atO l o.id)++o::l.drop (atO l o.id)
def f_i(l:List Drv)(d:Drv):List Drv:=l.take (atD l d.id)++d::l.drop (atD l d.id)
def g_f(k:Nat)(p:List Rte)(i:Int):List Rte:=p.take k++⟨i,0,[]⟩::p.drop k
def b_d(m:Option Mp)(b:Bk)(o:FleetMath.Ord)(n:Int):Bk×Int:=
 if a_q m b=false∨n<0∨100000<n then(bk0,1)
 else if ordE m o≠0 then(bk0,ordE m o)
 else if(find b.os o.id).isSome=true then(bk0,9)
 else if 40≤b.os.length then(bk0,10)
 else match a_2 m b.ds b.os b.pl o n with
  |(s,_,e)=>if e≠0 then(bk0,e)else b_H m b ⟨b.ds,b_w b.os o,(b_U b.pl o.id ⟨s.drv,s.pick,s.drop⟩).getD []⟩
def d_w(m:Option Mp)(b:Bk)(i:Int):Bk×Int:=
 if a_q m b=false then(bk0,1)
 else if(find b.os i).isSome=false then(bk0,8)
 else if a_Q b.pl i=true then(bk0,22)
 else b_H m b ⟨b.ds,b_e b.os i,a_b b.pl [i]⟩
def c_M(m:Option Mp)(b:Bk)(d:Drv):Bk×Int:=
 if a_q m b=false then(bk0,1)
 else if drvE m d≠0 then(bk0,drvE m d)
 else if d.retired=true then(bk0,23)
 else if(a_o b.ds d.id).isSome=true then(bk0,9)
 else if 8≤b.ds.length then(bk0,10)
 else b_H m b ⟨f_i b.ds d,b.os,g_f (atD b.ds d.id) b.pl d.id⟩
def b_j(p:List Rte)(r:Rte):List Int:=(a_p [r]).filter fun i=>!a_Q p i
def f_j(m:Option Mp)(ds:List Drv)(all:List FleetMath.Ord):List Int→List FleetMath.Ord→List Rte→Int→Except Int (List FleetMath.Ord×List Rte)
 |[],os,p,_=>.ok (os,p)
 |i::r,os,p,left=>
  match find all i with
  |none=>.error 8
  |some o=>match a_2 m ds os p o left with
   |(s,n,e)=>if e≠0 then .error e else f_j m ds all r (b_w os o) ((b_U p o.id ⟨s.drv,s.pick,s.drop⟩).getD []) (left-n)
def a_n(ds:List Drv)(i:Int):List Drv:=ds.map fun d=>if d.id=i then⟨d.id,d.room,d.home,d.win,true⟩else d
def a_W(m:Option Mp)(b:Bk)(i n:Int):Bk×Int:=
 if a_q m b=false∨n<0∨100000<n then(bk0,1)
 else match a_o b.ds i with
  |none=>(bk0,8)
  |some d=>
   if d.retired=true then(bk0,23)
   else match b_V b.pl i with
    |none=>(bk0,8)
    |some r=>
     if(b_K m (a_n b.ds i) (b.os.filter fun o=>!decide (o.id∈b_j b.pl r)) (a_b b.pl (b_j b.pl r))).2.2≠0 then(bk0,21)
     else match f_j m (a_n b.ds i) b.os (b_j b.pl r) (b.os.filter fun o=>!decide (o.id∈b_j b.pl r)) (a_b b.pl (b_j b.pl r)) n with
      | .error e=>(bk0,e)
      | .ok (os,p)=>b_H m b ⟨a_n b.ds i,os,p⟩
def b_N(m:Option Mp)(b:Bk)(i c:Int):Bk×Int:=
 if a_q m b=false then(bk0,1)
 else match b.pl[(a_L b.pl i 0).toNat]? with
  |none=>(bk0,8)
  |some r=>
   if a_L b.pl i 0<0 then(bk0,8)
   else if c<1∨(r.stops.length:Int)-r.served<c then(bk0,1)
   else(⟨b.ds,b.os,b.pl.set (a_L b.pl i 0).toNat ⟨r.drv,r.served+c,r.stops⟩⟩,0)
def c_N(m:Option Mp)(b:Bk)(n:Int):Bk×Int×Int:=
 if a_q m b=false∨n<0∨100000<n then(bk0,0,1)
 else match b_q m b.ds b.os b.pl n with
  |none=>(bk0,0,1)
  |some s=>match b_H m b ⟨b.ds,b.os,s.out⟩with
   |(x,e)=>if e≠0 then(bk0,0,e)else(x,s.steps,0)
section
variable {m : Option Mp} {b : Bk} {i : Int}
theorem a_w(h:a_q m b=true):b_y m b.ds b.os b.pl=true∧(∀ r∈b.pl,∃d,a_o b.ds r.drv=some d∧(a_J m d b.os r.stops).2.2=0)∧(∀ o∈b.os,(b_b b.pl o.id).isSome=true)∧b.pl.length=b.ds.length∧AscD b.ds∧AscO b.os:=by
 obtain⟨h1,h2,h3,h4⟩:=rightB_iff.1 h;obtain⟨h5,h6⟩:=audit_none.1 h1;obtain⟨h7,h8⟩:=make_zero.1 h5;exact⟨h7,h8,h6,h2,h3,h4⟩
theorem l_Q(h1:b_y m b.ds b.os b.pl=true)(h2:∀r∈b.pl,∃d,a_o b.ds r.drv=some d∧(a_J m d b.os r.stops).2.2=0)(h3:∀o∈b.os,(b_b b.pl o.id).isSome=true)(h4:b.pl.length=b.ds.length)(h5:AscD b.ds)(h6:AscO b.os):a_q m b=true:=
 rightB_iff.2 ⟨audit_none.2 ⟨make_zero.2 ⟨h1,h2⟩,h3⟩,h4,h5,h6⟩
theorem well_split{ds:List Drv}{os:List FleetMath.Ord}{p:List Rte}:b_y m ds os p=true↔m.isSome=true∧ds.length≤8∧a_V m os=true∧a_h p=true∧(∀ d∈ds,drvE m d=0)∧e_P ds:=by
 simp only[b_y,Bool.and_eq_true,decide_eq_true_eq,and_assoc]
theorem k_P(h:a_q m b=true):a_z m b.ds b.os b.pl=some (b_a m b.ds b.os b.pl):=by
 obtain⟨h1,h2,_⟩:=a_w h;unfold a_z;rw[if_pos (make_zero.2 ⟨h1,h2⟩)]
theorem found_iff{p:List Rte}{o:Int}:(b_b p o).isSome=true↔o∈(allS p).map (·.ord):=by
 constructor
 ·intro h
  have:¬∀x∈p,∀s∈x.stops,s.ord≠o:=fun e=>by rw[findP_none.2 e]at h;cases h
  simp only[Classical.not_forall]at this;obtain⟨x,hx,s,hs,he⟩:=this;simp only[allS,List.mem_map,List.mem_flatMap];exact⟨s,⟨x,hx,hs⟩,Classical.not_not.1 he⟩
 ·intro h
  cases hf:b_b p o with
  |some _=>rfl
  |none=>
   simp only[allS,List.mem_map,List.mem_flatMap]at h;obtain⟨s,⟨x,hx,hs⟩,he⟩:=h;exact absurd he (findP_none.1 hf x hx s hs)
end
end PlannerMath
namespace PlannerMath
section
variable {m : Option Mp} {b : Bk} {i : Int} {ds : List Drv} {os : List FleetMath.Ord} {p q : List Rte}
theorem j_c(p:List Rte)(l:List Int):(a_b p l).map (·.drv)=p.map (·.drv):=by
 unfold a_b;rw[List.map_map];rfl
theorem p_k{s:Spt}{o:Int}(h:b_U p o s=some q):q.map (·.drv)=p.map (·.drv):=by
 obtain⟨i,x,hw,rfl⟩:=withP_some h;rw[List.map_set];refine List.ext_getElem? fun k=>?_;rw[List.getElem?_set];split
 ·rename_i e
  subst e;rw[List.length_map,if_pos hw.lt,List.getElem?_map,hw.at_];rfl
 ·rfl
theorem n_h{c:Int}{n:Nat}(h:c_J m ds os p i c=(some q,n)):q.map (·.drv)=p.map (·.drv):=by
 obtain⟨_,_,⟨s,hs⟩,_⟩:=d_Q h;rw[p_k hs,j_c]
theorem p_l{c:Nat}{st:PSt}:(a_B m ds os c st i).out.map (·.drv)=st.out.map (·.drv):=by
 unfold a_B;split
 ·rfl
 split
 ·rfl
 rename_i q n hq
 split
 ·rfl
 split
 ·exact n_h hq
 ·rfl
theorem p_m{c:Nat}(l:List Int){st:PSt}:(l.foldl (a_B m ds os c) st).out.map (·.drv)=st.out.map (·.drv):=by
 induction l generalizing st with
 |nil=>rfl
 |cons x r ih=>rw[List.foldl_cons,ih,p_l]
theorem s_M{c k:Nat}{s:RSt}:(a_S m ds os c k s).out.map (·.drv)=s.out.map (·.drv):=by
 induction k generalizing s with
 |zero=>rfl
 |succ k ih=>
  rw[a_S];split
  ·rfl
  ·have e:(c_P m ds os c s).out.map (·.drv)=s.out.map (·.drv):=by unfold c_P d_Y;exact p_m _
   split
   ·rfl
   ·rw[ih];exact e
theorem k_Q{c:Int}{r:RSt}(h:b_q m ds os p c=some r):r.out.map (·.drv)=p.map (·.drv):=by
 unfold b_q at h;split at h
 ·cases h
 split at h
 ·cases h
 injection h with h;rw[← h];exact s_M
theorem r_v{n:Int}(h:a_q m b=true)(h0:0≤n)(h1:n≤100000):∃s,b_q m b.ds b.os b.pl n=some s∧c_N m b n=(⟨b.ds,b.os,s.out⟩,(s.steps:Int),0)∧(s.steps:Int)≤n∧(∃ t u,a_z m b.ds b.os b.pl=some t∧a_z m b.ds b.os s.out=some u∧u≤t)∧a_p s.out=a_p b.pl∧a_q m ⟨b.ds,b.os,s.out⟩=true:=by
 obtain⟨hw,hr,hall,hlen,hD,hO⟩:=a_w h;have ht:=k_P h;obtain⟨s,hs⟩:∃s,b_q m b.ds b.os b.pl n=some s:=⟨_,f_m ht h0 h1⟩;obtain⟨_,_,k1,t,u,k2,k3,k4,_,k5,k6⟩:=n_J hs;obtain⟨w1,w2⟩:=d_R k3
 have hright:a_q m ⟨b.ds,b.os,s.out⟩=true:=by
  refine l_Q w1 w2 (fun o ho=>?_) ?_ hD hO
  ·have e1:=found_iff.1 (hall o ho)
   refine found_iff.2 ((b_i s.out).2 o.id |>.1 ?_);rw[k6];exact((b_i b.pl).2 o.id).2 e1
  ·have:=congrArg List.length (k_Q hs)
   rw[List.length_map,List.length_map]at this;exact this.trans hlen
 refine⟨s,hs,?_,k1,⟨t,u,k2,k3,k4⟩,k6,hright⟩;unfold c_N;rw[if_neg (by rw[h];rintro(e|e|e)<;>first|cases e|omega),hs];simp only;rw[p_i hright k5];simp
theorem listed_mem{o x:FleetMath.Ord}:x∈b_w os o↔x=o∨x∈os:=by
 unfold b_w;rw[List.mem_append,List.mem_cons];conv=>rhs;rw[← List.take_append_drop (atO os o.id) os,List.mem_append]
 constructor
 ·rintro(h|h|h)
  ·exact .inr (.inl h)
  ·exact .inl h
  ·exact .inr (.inr h)
 ·rintro(h|h|h)
  ·exact .inr (.inl h)
  ·exact .inl h
  ·exact .inr (.inr h)
end
end PlannerMath
namespace PlannerMath
section
variable {m : Option Mp} {b x : Bk} {i e n : Int} {ds : List Drv} {os : List FleetMath.Ord} {p q : List Rte}
def Safe(m:Option Mp)(b x:Bk)(e:Int):Prop:=(e=0∧a_q m x=true∧b_S b.pl x.pl=true)∨(e≠0∧x=bk0)
theorem e_A(h:e≠0):Safe m b bk0 e:=.inr ⟨h,rfl⟩
theorem d_x{next:Bk}(h:b_H m b next=(x,e)):Safe m b x e:=by
 rcases p_j h with⟨h1,rfl,h2,h3⟩|⟨rfl,rfl⟩
 ·exact .inl ⟨h1,h2,h3⟩
 ·exact e_A (by decide)
theorem a_E{a:Bk}{c:Int}(h:(a,c)=(x,e))(ha:a=bk0)(hc:c≠0):Safe m b x e:=by
 injection h with h1 h2;subst h1;subst h2;subst ha;exact e_A hc
theorem n_i{o:FleetMath.Ord}(h:b_d m b o n=(x,e)):Safe m b x e:=by
 unfold b_d at h;split at h
 ·exact a_E h rfl (by decide)
 split at h
 ·rename_i c;exact a_E h rfl c
 split at h
 ·exact a_E h rfl (by decide)
 split at h
 ·exact a_E h rfl (by decide)
 split at h;split at h
 ·rename_i c;exact a_E h rfl c
 ·exact d_x h
theorem p_n(h:d_w m b i=(x,e)):Safe m b x e:=by
 unfold d_w at h;split at h
 ·exact a_E h rfl (by decide)
 split at h
 ·exact a_E h rfl (by decide)
 split at h
 ·exact a_E h rfl (by decide)
 ·exact d_x h
theorem p_o{d:Drv}(h:c_M m b d=(x,e)):Safe m b x e:=by
 unfold c_M at h;split at h
 ·exact a_E h rfl (by decide)
 split at h
 ·rename_i c;exact a_E h rfl c
 split at h
 ·exact a_E h rfl (by decide)
 split at h
 ·exact a_E h rfl (by decide)
 split at h
 ·exact a_E h rfl (by decide)
 ·exact d_x h
theorem p_p{all:List FleetMath.Ord}{l:List Int}{left:Int}(h:f_j m ds all l os p left=.error e):e≠0:=by
 induction l generalizing os p left with
 |nil=>cases h
 |cons i r ih=>
  unfold f_j at h;split at h
  ·injection h with h;subst h;decide
  ·split at h
   split at h
   ·rename_i c;injection h with h;subst h;exact c
   ·exact ih h
theorem k_R(h:a_W m b i n=(x,e)):Safe m b x e:=by
 unfold a_W at h;split at h
 ·exact a_E h rfl (by decide)
 split at h
 ·exact a_E h rfl (by decide)
 split at h
 ·exact a_E h rfl (by decide)
 split at h
 ·exact a_E h rfl (by decide)
 split at h
 ·exact a_E h rfl (by decide)
 split at h
 ·rename_i e' c;exact a_E h rfl (p_p c)
 ·exact d_x h
theorem p_q{k:Int}(h:c_N m b n=(x,k,e)):Safe m b x e∧(e≠0→k=0):=by
 unfold c_N at h;split at h
 ·injection h with h1 h2;injection h2 with h2 h3;subst h1;subst h2;subst h3;exact⟨e_A (by decide),fun _=>rfl⟩
 split at h
 ·injection h with h1 h2;injection h2 with h2 h3;subst h1;subst h2;subst h3;exact⟨e_A (by decide),fun _=>rfl⟩
 split at h;rename_i y f hg
 split at h
 ·rename_i c;injection h with h1 h2;injection h2 with h2 h3;subst h1;subst h2;subst h3;exact⟨e_A c,fun _=>rfl⟩
 ·rename_i c
  injection h with h1 h2;injection h2 with h2 h3;subst h1;subst h2;subst h3;have hf:f=0:=Classical.not_not.1 c;subst hf;exact⟨d_x hg,fun h=>absurd rfl h⟩
theorem k_S(h1:q.map (·.drv)=p.map (·.drv))(h2:q.map (·.stops)=p.map (·.stops))(h3:∀r∈q,0≤r.served∧r.served≤r.stops.length)(h:a_h p=true):a_h q=true:=by
 have hl:q.length=p.length:=by have:=congrArg List.length h1;simpa using this
 have ha:allS q=allS p:=by unfold allS;rw[List.flatMap_def,List.flatMap_def,h2]
 rw[b_h,Bool.and_eq_true,decide_eq_true_eq,b_g]at h ⊢;obtain⟨k1,k2,k3,k4⟩:=h;refine⟨by omega,fun r hr=>?_,?_,by rw[ha];exact k4⟩
 ·obtain⟨j,hj⟩:=List.mem_iff_getElem?.1 hr
  have e1:=congrArg (·[j]?) h1;have e2:=congrArg (·[j]?) h2;simp only[List.getElem?_map,hj,Option.map_some]at e1 e2;cases hp:p[j]? with
  |none=>rw[hp]at e1;cases e1
  |some y=>
   rw[hp]at e1 e2;simp only[Option.map_some,Option.some.injEq]at e1 e2;obtain⟨g1,g2,g3⟩:=k2 y (List.mem_of_getElem? hp);have:=h3 r hr;refine⟨by rw[e1];exact g1,by rw[e1];exact g2,?_⟩;simp only[a_7,Bool.and_eq_true,decide_eq_true_eq]at g3 ⊢;rw[e2];rw[e2]at this;exact⟨⟨g3.1.1,this.1,this.2⟩,g3.2⟩
 ·have:(q.map (·.drv)).Pairwise (·<·):=by rw[h1,List.pairwise_map];exact k3
  rw[List.pairwise_map]at this;exact this
theorem p_r{α:Type}{l:List Rte}{k:Nat}{r r':Rte}{f:Rte→α}(h:l[k]?=some r)(he:f r'=f r):(l.set k r').map f=l.map f:=by
 rw[List.map_set];refine List.ext_getElem? fun j=>?_;rw[List.getElem?_set];split
 ·rename_i e
  subst e;have hlt:=(List.getElem?_eq_some_iff.1 h).1;rw[List.length_map,if_pos hlt,List.getElem?_map,h,he];rfl
 ·rfl
theorem n_j{o:Int}(h:(allS q)=allS p):(b_b q o).isSome=(b_b p o).isSome:=by
 rw[Bool.eq_iff_iff,found_iff,found_iff,h]
theorem n_k{c:Int}(h:b_N m b i c=(x,e)):(e=0∧a_q m x=true)∨(e≠0∧x=bk0):=by
 have hz:∀{a:Bk} {c:Int},(a,c)=(x,e)→a=bk0→c≠0→(e=0∧a_q m x=true)∨(e≠0∧x=bk0):=by
  intro a c h ha hc;injection h with h1 h2;subst h1;subst h2;exact .inr ⟨hc,ha⟩
 unfold b_N at h;split at h
 ·exact hz h rfl (by decide)
 rename_i hb
 split at h
 ·exact hz h rfl (by decide)
 rename_i r hr
 split at h
 ·exact hz h rfl (by decide)
 split at h
 ·exact hz h rfl (by decide)
 rename_i hc
 injection h with h1 h2;subst h1;subst h2
 have hbt:a_q m b=true:=by
  cases hh:a_q m b
  ·exact absurd hh hb
  ·rfl
 obtain⟨hw,hrr,hall,hlen,hD,hO⟩:=a_w hbt;obtain⟨w1,w2,w3,w4,w5,w6⟩:=well_split.1 hw;have hst:(b.pl.set (a_L b.pl i 0).toNat ⟨r.drv,r.served+c,r.stops⟩).map (·.stops)=b.pl.map (·.stops):=p_r hr rfl;have hdr:(b.pl.set (a_L b.pl i 0).toNat ⟨r.drv,r.served+c,r.stops⟩).map (·.drv)=b.pl.map (·.drv):=p_r hr rfl;have ha:allS (b.pl.set (a_L b.pl i 0).toNat ⟨r.drv,r.served+c,r.stops⟩)=allS b.pl:=by unfold allS;rw[List.flatMap_def,List.flatMap_def,hst]
 have hsv:=(b_X w4).2;refine .inl ⟨rfl,l_Q (well_split.2 ⟨w1,w2,w3,k_S hdr hst ?_ w4,w5,w6⟩) ?_ (fun o ho=>by rw[n_j ha];exact hall o ho) (by show(List.set _ _ _).length=_;rw[List.length_set];exact hlen) hD hO⟩
 ·intro y hy
  rcases List.mem_or_eq_of_mem_set hy with h1|rfl
  ·exact(hsv y h1).2
  ·have:=(hsv r (List.mem_of_getElem? hr)).2
   show 0≤r.served+c∧r.served+c≤(r.stops.length:Int);omega
 ·intro y hy
  rcases List.mem_or_eq_of_mem_set hy with h1|rfl
  ·exact hrr y h1
  ·exact hrr r (List.mem_of_getElem? hr)
end
end PlannerMath
namespace PlannerMath
theorem r_w{x y:Int}{l m:List Int}(hm:(y::m).Pairwise (·<·))(hl:(x::l).Pairwise (·<·))(h:∀z∈x::l,z∈y::m):∀z∈l,z∈m:=by
 intro z hz;have h1:=(List.pairwise_cons.1 hl).1 z hz;rcases List.mem_cons.1 (h z (List.mem_cons_of_mem _ hz))with rfl|h2
 ·rcases List.mem_cons.1 (h x (List.mem_cons_self ..))with h3|h3
  ·omega
  ·have:=(List.pairwise_cons.1 hm).1 x h3
   omega
 ·exact h2
theorem r_x:∀{m l:List Int},m.Pairwise (·<·)→l.Pairwise (·<·)→(∀ x∈l,x∈m)→m.length≤l.length→l=m:=by
 intro m;induction m with
 |nil=>
  intro l _ hl h _;cases l with
  |nil=>rfl
  |cons x r=>cases h x (List.mem_cons_self ..)
 |cons y m ih=>
  intro l hm hl h hn;cases l with
  |nil=>simp at hn
  |cons x l=>
   have e:=ih (List.pairwise_cons.1 hm).2 (List.pairwise_cons.1 hl).2 (r_w hm hl h) (by simpa using hn);subst e;rcases List.mem_cons.1 (h x (List.mem_cons_self ..))with rfl|h3
   ·rfl
   ·have:=(List.pairwise_cons.1 hl).1 x h3
    omega
section
variable {m : Option Mp} {b : Bk} {i : Int} {ds : List Drv} {os : List FleetMath.Ord} {p : List Rte}
theorem ascD_map:AscD ds↔(ds.map (·.id)).Pairwise (·<·):=by unfold AscD;rw[List.pairwise_map]
theorem n_l{d:Drv}(h:a_o ds i=some d):d∈ds∧d.id=i:=⟨List.mem_of_find?_eq_some h,by simpa using List.find?_some h⟩
theorem g_g(h:a_q m b=true):b.pl.map (·.drv)=b.ds.map (·.id):=by
 obtain⟨hw,hr,_,hlen,hD,_⟩:=a_w h;obtain⟨_,_,_,w4,_,_⟩:=well_split.1 hw;refine r_x (ascD_map.1 hD) ?_ (fun x hx=>?_) (by simp only[List.length_map];omega)
 ·rw[List.pairwise_map];exact(b_X w4).1
 ·obtain⟨r,hr',rfl⟩:=List.mem_map.1 hx
  obtain⟨d,hd,_⟩:=hr r hr';obtain⟨h1,h2⟩:=n_l hd;exact List.mem_map.2 ⟨d,h1,h2⟩
def p_s(b:Bk):Bool:=decide (b.pl.map (·.drv)=b.ds.map (·.id))
def j_d(os:List FleetMath.Ord):Bool:=decide (os.Pairwise fun x y=>x.id≤y.id)
theorem n_m(m:Option Mp)(b:Bk):a_q m b=(decide (c_a m b.ds b.os b.pl=[]) && p_s b && j_d b.os):=by
 rw[Bool.eq_iff_iff];simp only[Bool.and_eq_true,decide_eq_true_eq,p_s,j_d];constructor
 ·intro h
  exact⟨⟨(rightB_iff.1 h).1,g_g h⟩,(rightB_iff.1 h).2.2.2.imp fun h=>by omega⟩
 ·rintro⟨⟨h1,h2⟩,h3⟩
  obtain⟨h4,_⟩:=audit_none.1 h1;obtain⟨hw,_⟩:=make_zero.1 h4;obtain⟨_,_,w3,w4,_,_⟩:=well_split.1 hw;refine rightB_iff.2 ⟨h1,by have:=congrArg List.length h2;simpa using this,?_,?_⟩
  ·rw[ascD_map,←h2,List.pairwise_map];exact(b_X w4).1
  ·unfold AscO
   have:=(known_iff.1 w3).2.2;refine(h3.and this).imp ?_;rintro x y ⟨h5,h6⟩;omega
theorem s_d{α:Type}{f:α→Int}{l:List α}{k:Nat}(hk:k≤l.length)(h1:∀t x,t<k→l[t]?=some x→f x<i)(h2:∀x,l[k]?=some x→¬f x<i):(l.takeWhile fun x=>decide (f x<i)).length=k:=by
 induction l generalizing k with
 |nil=>simp at hk;simp[hk]
 |cons x r ih=>
  cases k with
  |zero=>
   have:=h2 x rfl;rw[List.takeWhile_cons,if_neg (by simpa using this)];rfl
  |succ k=>
   have:=h1 0 x (Nat.succ_pos _) rfl;rw[List.takeWhile_cons,if_pos (by simpa using this),List.length_cons,ih (k:=k) (by simpa using hk) (fun t y ht hy=>h1 (t+1) y (by omega) (by simpa using hy)) (fun y hy=>h2 y (by simpa using hy))]
theorem s_e(h:AscD ds):a_o ds i=(ds[atD ds i]?).filter fun x=>decide (x.id=i):=by
 induction ds with
 |nil=>rfl
 |cons x r ih=>
  have hp:=List.pairwise_cons.1 h;unfold a_o atD at*;rw[List.takeWhile_cons,List.find?_cons];by_cases h1:x.id<i
  ·have e1:(fun d:Drv=>decide (d.id=i)) x=false:=by simp;omega
   rw[if_pos (by simpa using h1)];simp only[e1,List.length_cons,List.getElem?_cons_succ];exact ih hp.2
  ·rw[if_neg (by simpa using h1)]
   simp only[List.length_nil,List.getElem?_cons_zero];by_cases h2:x.id=i
   ·simp[h2,Option.filter]
   ·have:r.find? (fun d=>decide (d.id=i))=none:=by
     rw[List.find?_eq_none];intro y hy;have:=hp.1 y hy;simp;omega
    simp[h2,this,Option.filter]
theorem s_N(h:AscO os):find os i=(os[atO os i]?).filter fun x=>decide (x.id=i):=by
 induction os with
 |nil=>rfl
 |cons x r ih=>
  have hp:=List.pairwise_cons.1 h;unfold find atO at*;rw[List.takeWhile_cons,List.find?_cons];by_cases h1:x.id<i
  ·have e1:(fun d:FleetMath.Ord=>decide (d.id=i)) x=false:=by simp;omega
   rw[if_pos (by simpa using h1)];simp only[e1,List.length_cons,List.getElem?_cons_succ];exact ih hp.2
  ·rw[if_neg (by simpa using h1)]
   simp only[List.length_nil,List.getElem?_cons_zero];by_cases h2:x.id=i
   ·simp[h2,Option.filter]
   ·have:r.find? (fun d=>decide (d.id=i))=none:=by
     rw[List.find?_eq_none];intro y hy;have:=hp.1 y hy;simp;omega
    simp[h2,this,Option.filter]
theorem g_h{d:Drv}(h:AscD ds)(hd:a_o ds i=some d):ds[atD ds i]?=some d∧d.id=i∧atD ds i<ds.length:=by
 rw[s_e h,Option.filter_eq_some_iff]at hd;exact⟨hd.1,by simpa using hd.2,(List.getElem?_eq_some_iff.1 hd.1).1⟩
theorem f_C{d:Drv}(h:a_q m b=true)(hd:a_o b.ds i=some d):∃r,b.pl[atD b.ds i]?=some r∧r.drv=i∧b_V b.pl i=some r∧a_L b.pl i 0=((atD b.ds i:Nat):Int):=by
 obtain⟨hw,_,_,hlen,hD,_⟩:=a_w h;obtain⟨_,_,_,w4,_,_⟩:=well_split.1 hw;obtain⟨h1,h2,h3⟩:=g_h hD hd;have hk:atD b.ds i<b.pl.length:=by omega
 have hr:=List.getElem?_eq_getElem hk;have e:=congrArg (·[atD b.ds i]?) (g_g h);simp only[List.getElem?_map,h1,hr,Option.map_some,Option.some.injEq]at e;refine⟨_,hr,e.trans h2,?_,?_⟩
 ·have:=b_I w4 (List.getElem_mem hk)
  rw[e,h2]at this;exact this
 ·have:=l_E (b_X w4).1 hr 0
  rw[e,h2,Nat.zero_add]at this;exact this
theorem r_y(h:a_q m b=true)(hd:a_o b.ds i=none):b_V b.pl i=none∧a_L b.pl i 0=-1:=by
 have hn:∀r∈b.pl,r.drv≠i:=fun r hr e=>by
  have:r.drv∈b.ds.map (·.id):=by rw[← g_g h];exact List.mem_map.2 ⟨r,hr,rfl⟩
  obtain⟨d,hd',he⟩:=List.mem_map.1 this;have:=List.find?_eq_none.1 hd d hd';simp at this;omega
 rcases Go.Proofs.YtkpnmpjnpcjohaaGreat.Audit.num_cases b.pl i 0 with⟨h1,h2⟩|⟨k,r,h1,h2,h3⟩
 ·exact⟨h1,h2⟩
 ·obtain⟨h4,h5⟩:=c_q h2
  exact absurd h5 (hn r h4)
theorem r_z{c:Int}(h:a_q m b=true):b_N m b i c=match a_o b.ds i with
 |none=>(bk0,8)
 |some _=>match b.pl[atD b.ds i]? with
  |none=>(bk0,8)
  |some r=>if c<1∨(r.stops.length:Int)-r.served<c then(bk0,1)else(⟨b.ds,b.os,b.pl.set (atD b.ds i) ⟨r.drv,r.served+c,r.stops⟩⟩,0):=by
 unfold b_N;rw[if_neg (by rw[h];decide)];cases hd:a_o b.ds i with
 |none=>
  obtain⟨_,h2⟩:=r_y h hd;simp only[h2];split
  ·rfl
  ·rw[if_pos (by decide)]
 |some d=>
  obtain⟨r,h1,h2,h3,h4⟩:=f_C h hd;simp only[h4,Int.toNat_natCast,h1];rw[if_neg (by omega)]
def inM(b:Bk)(l:List Int):List FleetMath.Ord:=b.os.filter fun o=>!(decide (o.id∈l) && !a_Q b.pl o.id)
def outM(b:Bk)(l:List Int):List FleetMath.Ord:=b.os.filter fun o=>decide (o.id∈l) && !a_Q b.pl o.id
theorem r_A{l:List Int}{o:FleetMath.Ord}(h:a_q m b=true)(ho:o∈b.os):(b_b (a_b b.pl l) o.id).isSome=!(decide (o.id∈l) && !a_Q b.pl o.id):=by
 obtain⟨_,_,hall,_⟩:=a_w h;have h1:=found_iff.1 (hall o ho);rw[Bool.eq_iff_iff,found_iff];simp only[allS,a_b,List.mem_map,List.mem_flatMap]at h1 ⊢;constructor
 ·rintro⟨s,⟨x,⟨r,hr,rfl⟩,hs⟩,he⟩
  have:=(List.mem_filter.1 hs).2;rw[he]at this;revert this;cases a_Q b.pl o.id<;>simp
 ·intro hc
  obtain⟨s,⟨r,hr,hs⟩,he⟩:=h1;refine⟨s,⟨_,⟨r,hr,rfl⟩,List.mem_filter.2 ⟨hs,?_⟩⟩,he⟩;rw[he];revert hc;cases a_Q b.pl o.id<;>simp
theorem r_B(h:a_q m b=true):d_w m b i=if(find b.os i).isSome=false then(bk0,8)else if outM b [i]=[]then(bk0,22)else b_H m b ⟨b.ds,inM b [i],a_b b.pl [i]⟩:=by
 unfold d_w;rw[if_neg (by rw[h];decide)];by_cases hf:(find b.os i).isSome=false
 ·rw[if_pos hf,if_pos hf]
 rw[if_neg hf,if_neg hf]
 obtain⟨o,ho⟩:∃o,find b.os i=some o:=by
  cases hx:find b.os i with
  |none=>rw[hx]at hf;exact absurd rfl hf
  |some o=>exact⟨o,rfl⟩
 obtain⟨h1,h2⟩:=c_d ho;cases hb:a_Q b.pl i with
 |true=>
  rw[if_pos rfl,if_pos];unfold outM;rw[List.filter_eq_nil_iff];intro x hx;by_cases e:x.id=i
  ·simp[e,hb]
  ·simp[e]
 |false=>
  rw[if_neg (by decide),if_neg]
  ·congr 2
   unfold b_e inM;refine List.filter_congr fun x hx=>?_;by_cases e:x.id=i
   ·simp[e,hb]
   ·simp[e]
  ·intro e
   have:o∈outM b [i]:=List.mem_filter.2 ⟨h1,by simp[h2,hb]⟩;rw[e]at this;cases this
theorem g_S{r:Rte}:a_b b.pl (a_p [r])=a_b b.pl (b_j b.pl r):=by
 unfold a_b;refine List.map_congr_left fun x _=>?_;congr 1
 refine List.filter_congr fun s _=>?_;unfold b_j;cases hb:a_Q b.pl s.ord with
 |true=>simp
 |false=>simp[List.mem_filter,hb]
theorem p_t{r:Rte}:inM b (a_p [r])=b.os.filter fun o=>!decide (o.id∈b_j b.pl r):=by
 unfold inM b_j;refine List.filter_congr fun o _=>?_;cases hb:a_Q b.pl o.id with
 |true=>simp[List.mem_filter,hb]
 |false=>simp[List.mem_filter,hb]
theorem n_n{r:Rte}(h:a_q m b=true)(hr:r∈b.pl):b_j b.pl r=(outM b (a_p [r])).map (·.id):=by
 obtain⟨_,hrr,_,_,_,hO⟩:=a_w h;refine e_W ((b_i [r]).1.filter _) ?_ fun x=>?_
 ·rw[List.pairwise_map];exact List.Pairwise.filter _ hO
 ·unfold b_j outM
  simp only[List.mem_filter,List.mem_map,Bool.and_eq_true,decide_eq_true_eq,Bool.not_eq_true'];constructor
  ·rintro⟨h1,h2⟩
   have h3:=((b_i [r]).2 x).1 h1;simp only[allS,List.flatMap_cons,List.flatMap_nil,List.append_nil,List.mem_map]at h3;obtain⟨s,hs,rfl⟩:=h3;obtain⟨d,_,he⟩:=hrr r hr;obtain⟨k,hk⟩:=List.mem_iff_getElem?.1 hs;obtain⟨o,ho⟩:=f_9 he hk;obtain⟨h4,h5⟩:=c_d ho;exact⟨o,⟨h4,by rw[h5];exact h1,by rw[h5];exact h2⟩,h5⟩
  ·rintro⟨o,⟨_,h1,h2⟩,rfl⟩
   exact⟨h1,h2⟩
def e_B(m:Option Mp)(ds:List Drv):List FleetMath.Ord→List FleetMath.Ord→List Rte→Int→Except Int (List FleetMath.Ord×List Rte)
 |[],os,p,_=>.ok (os,p)
 |o::r,os,p,left=>
  match a_2 m ds os p o left with
  |(s,n,e)=>if e≠0 then .error e else e_B m ds r (b_w os o) ((b_U p o.id ⟨s.drv,s.pick,s.drop⟩).getD []) (left-n)
theorem n_o{all outs:List FleetMath.Ord}(h:∀o∈outs,find all o.id=some o)(left:Int):f_j m ds all (outs.map (·.id)) os p left=e_B m ds outs os p left:=by
 induction outs generalizing os p left with
 |nil=>rfl
 |cons o r ih=>
  rw[List.map_cons,f_j,e_B,h o (List.mem_cons_self ..)];obtain⟨⟨s,n,e⟩,hc⟩:∃z,a_2 m ds os p o left=z:=⟨_,rfl⟩;simp only[hc];by_cases he:e≠0
  ·rw[if_pos he,if_pos he]
  ·rw[if_neg he,if_neg he]
   exact ih (fun x hx=>h x (List.mem_cons_of_mem _ hx)) _
theorem p_u{n:Int}(h:a_q m b=true)(h0:0≤n)(h1:n≤100000):a_W m b i n=match a_o b.ds i with
 |none=>(bk0,8)
 |some d=>if d.retired=true then(bk0,23)else match b.pl[atD b.ds i]? with
  |none=>(bk0,8)
  |some r=>if(b_K m (a_n b.ds i) (inM b (a_p [r])) (a_b b.pl (a_p [r]))).2.2≠0 then(bk0,21)
   else match e_B m (a_n b.ds i) (outM b (a_p [r])) (inM b (a_p [r])) (a_b b.pl (a_p [r])) n with
    | .error e=>(bk0,e)
    | .ok (os,p)=>b_H m b ⟨a_n b.ds i,os,p⟩:=by
 obtain⟨hw,_,_,_,_,_⟩:=a_w h;obtain⟨_,_,w3,w4,_,_⟩:=well_split.1 hw;unfold a_W;rw[if_neg (by rw[h];rintro(e|e|e)<;>first|cases e|omega)];cases hd:a_o b.ds i with
 |none=>rfl
 |some d=>
  obtain⟨r,hr,_,h3,_⟩:=f_C h hd;have hm:r∈b.pl:=List.mem_of_getElem? hr;simp only[h3,hr]
  have e:f_j m (a_n b.ds i) b.os (b_j b.pl r) (inM b (a_p [r])) (a_b b.pl (a_p [r])) n=e_B m (a_n b.ds i) (outM b (a_p [r])) (inM b (a_p [r])) (a_b b.pl (a_p [r])) n:=by
   rw[n_n h hm];exact n_o (fun o ho=>l_K (h_B w3) (List.mem_filter.1 ho).1) n
  rw[← p_t,←g_S,e];all_goals rfl
theorem k_T{d:Drv}(h:AscD ds)(hd:a_o ds i=some d):a_n ds i=ds.set (atD ds i) ⟨d.id,d.room,d.home,d.win,true⟩:=by
 obtain⟨h1,h2,h3⟩:=g_h h hd;refine List.ext_getElem? fun k=>?_;unfold a_n;rw[List.getElem?_map,List.getElem?_set];split
 ·rename_i e
  subst e;rw[h1,Option.map_some,if_pos h2]
 ·rename_i hne
  cases hk:ds[k]? with
  |none=>rfl
  |some y=>
   rw[Option.map_some,if_neg];intro e;have hl:=(List.getElem?_eq_some_iff.1 hk).1;have hk':=(List.getElem?_eq_some_iff.1 hk).2;have h1':=(List.getElem?_eq_some_iff.1 h1).2;rcases Nat.lt_or_gt_of_ne hne with hlt|hgt
   ·have:=List.pairwise_iff_getElem.1 h _ _ h3 hl hlt
    rw[hk',h1']at this;omega
   ·have:=List.pairwise_iff_getElem.1 h _ _ hl h3 hgt
    rw[hk',h1']at this;omega
end
end PlannerMath
namespace PlannerMath
abbrev kM:Option Mp:=some ⟨2,[0,5,7,0]⟩
abbrev kO:FleetMath.Ord:=⟨1,3,⟨0,⟨2,9⟩,1⟩,⟨1,⟨0,20⟩,2⟩⟩
abbrev kD:Drv:=⟨4,3,1,⟨1,30⟩,false⟩
abbrev kB:Bk:=⟨[kD],[],[⟨4,0,[]⟩]⟩
abbrev kX:Bk:=⟨[kD],[kO],[⟨4,0,[⟨1,false⟩,⟨1,true⟩]⟩]⟩
abbrev kS:Bk:=⟨[kD],[kO],[⟨4,1,[⟨1,false⟩,⟨1,true⟩]⟩]⟩
abbrev kR:Bk:=⟨[⟨4,3,1,⟨1,30⟩,true⟩],[],[⟨4,0,[]⟩]⟩
theorem k_r0:a_q kM bk0=true:=by kernel_rfl
theorem k_r1:a_q kM kB=true:=by kernel_rfl
theorem k_p1:b_d kM kB kO 9=(kX,0):=by kernel_rfl
theorem k_p2:b_d kM kB kO 0=(bk0,20):=by kernel_rfl
theorem k_p3:b_d kM kX kO 9=(bk0,9):=by kernel_rfl
theorem k_p4:d_w kM kB 1=(bk0,8):=by kernel_rfl
theorem k_p6:c_M kM kB kD=(bk0,9):=by kernel_rfl
theorem k_p7:b_N kM kX 4 1=(kS,0):=by kernel_rfl
theorem k_p8:d_w kM kS 1=(bk0,22):=by kernel_rfl
theorem k_p9:b_N kM kX 4 3=(bk0,1):=by kernel_rfl
theorem t_L:b_d kM kR kO 9=(bk0,20):=by kernel_rfl
theorem k_mv:a_p [⟨4,0,[⟨1,false⟩,⟨1,true⟩]⟩]=[1]:=by simp[a_p,allS,List.mergeSort,List.MergeSort.Internal.splitInTwo,Lib.compact];rfl
theorem k_p5:a_W kM kX 4 9=(bk0,20):=by
 have hd:a_o kX.ds 4=some kD:=by kernel_rfl
 have hr:b_V kX.pl 4=some ⟨4,0,[⟨1,false⟩,⟨1,true⟩]⟩:=by kernel_rfl
 have hm:b_j kX.pl ⟨4,0,[⟨1,false⟩,⟨1,true⟩]⟩=[1]:=by unfold b_j;rw[k_mv];kernel_rfl
 unfold a_W
 rw[if_neg (by have:a_q kM kX=true:=by kernel_rfl
               rw[this];decide)]
 rw[hd];show(if kD.retired=true then _ else _)=_;rw[if_neg (by decide),hr];show(if(b_K kM (a_n kX.ds 4) (kX.os.filter fun o=>!decide (o.id∈b_j kX.pl ⟨4,0,[⟨1,false⟩,⟨1,true⟩]⟩)) (a_b kX.pl (b_j kX.pl ⟨4,0,[⟨1,false⟩,⟨1,true⟩]⟩))).2.2≠0 then _ else match f_j kM (a_n kX.ds 4) kX.os (b_j kX.pl ⟨4,0,[⟨1,false⟩,⟨1,true⟩]⟩) (kX.os.filter fun o=>!decide (o.id∈b_j kX.pl ⟨4,0,[⟨1,false⟩,⟨1,true⟩]⟩)) (a_b kX.pl (b_j kX.pl ⟨4,0,[⟨1,false⟩,⟨1,true⟩]⟩)) 9 with| .error e=>(bk0,e)| .ok (os,p)=>b_H kM kX ⟨a_n kX.ds 4,os,p⟩)=_;rw[hm];kernel_rfl
theorem t_M:a_W kM kB 4 9=(kR,0):=by kernel_rfl
end PlannerMath
end Go.Proofs.YtkpnmpjnpcjohaaGreat
