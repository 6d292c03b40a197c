import Derived.Test.YtkpnmpjnpcjohaaGreatCertMaths
set_option linter.unusedVariables false
namespace Go.Proofs.YtkpnmpjnpcjohaaGreat
open GeoMath FleetMath PlanMath CertMath
namespace AuditMath
structure Trb where
 drv:Int
 ord:Int
 why:Int
deriving DecidableEq
def b_v(seen:List Stp)(s:Stp):Prop:=s.drop=true∧Stp.mk s.ord false∉seen
instance(seen:List Stp)(s:Stp):Decidable (b_v seen s):=by unfold b_v;infer_instance
def e_h(d:Drv)(o:FleetMath.Ord)(seen:List Stp)(st:St)(s:Stp):List Trb:=
 if b_v seen s then [⟨d.id,s.ord,17⟩]else if s.drop=false∧d.room<a_k o s st.load then [⟨d.id,s.ord,14⟩]else []
def b_u(m:Mp)(o:FleetMath.Ord)(st:St)(s:Stp):Int:=
 if st.left+time m st.at_ (a_e o s).place<(a_e o s).win.fr then(a_e o s).win.fr else st.left+time m st.at_ (a_e o s).place
def f_H(m:Mp)(d:Drv)(o:FleetMath.Ord)(st:St)(s:Stp):List Trb:=
 if(a_e o s).win.to<b_u m o st s∨d.win.to<b_u m o st s+(a_e o s).serv then [⟨d.id,s.ord,15⟩]else []
def e_K(m:Mp)(o:FleetMath.Ord)(seen:List Stp)(st:St)(s:Stp):St:=⟨(a_e o s).place,b_u m o st s+(a_e o s).serv,if b_v seen s then st.load else a_k o s st.load⟩
def a_1(m:Mp)(d:Drv)(os:List FleetMath.Ord):List Stp→St→List Stp→List Trb
 |_,_,[]=>[]
 |seen,st,s::r=>
  match find os s.ord with
  |none=>⟨d.id,s.ord,8⟩::a_1 m d os (seen++[s]) st r
  |some o=>e_h d o seen st s++f_H m d o st s++a_1 m d os (seen++[s]) (e_K m o seen st s) r
def b_9(d:Drv)(os:List FleetMath.Ord):List Stp→List Trb
 |[]=>[]
 |s::r=>(if s.drop=false∧(find os s.ord).isSome=true∧Stp.mk s.ord true∉r then [⟨d.id,s.ord,18⟩]else [])++b_9 d os r
def f_I(m:Mp)(d:Drv)(os:List FleetMath.Ord)(stops:List Stp):List Trb:=a_1 m d os [] (st0 d) stops++b_9 d os stops
def b_C(m:Mp)(ds:List Drv)(os:List FleetMath.Ord)(r:Rte):List Trb:=
 match a_o ds r.drv with
 |none=>[⟨r.drv,0,8⟩]
 |some d=>f_I m d os r.stops
def c_Q(p:List Rte)(os:List FleetMath.Ord):List Trb:=os.filterMap fun o=>if(b_b p o.id).isSome then none else some ⟨0,o.id,19⟩
def c_a(m:Option Mp)(ds:List Drv)(os:List FleetMath.Ord)(p:List Rte):List Trb:=
 if b_y m ds os p then
  match m with
  |none=>[⟨0,0,1⟩]
  |some m'=>p.flatMap (b_C m' ds os)++c_Q p os
 else [⟨0,0,1⟩]
section
variable {m : Mp} {d : Drv} {os : List FleetMath.Ord} {seen xs r : List Stp} {st st' : St} {s : Stp} {o : FleetMath.Ord} {vs : List Vis} {v : Vis}
theorem d_j(h:find os s.ord=none):a_1 m d os seen st (s::r)=⟨d.id,s.ord,8⟩::a_1 m d os (seen++[s]) st r:=by rw[a_1,h]
theorem d_k(h:find os s.ord=some o):a_1 m d os seen st (s::r)=e_h d o seen st s++f_H m d o st s++a_1 m d os (seen++[s]) (e_K m o seen st s) r:=by rw[a_1,h]
theorem h_I(ho:OrdOk m o)(s:Stp):right (a_e o s).win=true:=by
 unfold a_e;split
 ·exact ho.dropW
 ·exact ho.pickW
theorem l_w(ho:OrdOk m o):f_H m d o st s=[]↔FleetMath.served m st.at_ st.left (a_e o s) d.win.to=some (b_u m o st s,b_u m o st s+(a_e o s).serv):=by
 rw[served_some,beginT_some];have hw:=h_I ho s;have hw':=right_iff.1 hw;unfold f_H;constructor
 ·intro h
  split at h
  ·cases h
  rename_i hn
  have h1:¬(a_e o s).win.to<b_u m o st s:=fun e=>hn (.inl e);have h2:¬d.win.to<b_u m o st s+(a_e o s).serv:=fun e=>hn (.inr e);refine⟨⟨hw,?_,rfl⟩,rfl,by omega⟩;unfold b_u at h1;split at h1<;>omega
 ·rintro⟨⟨_,h1,_⟩,_,h2⟩
  rw[if_neg];rintro(h|h)
  ·unfold b_u at h
   split at h<;>omega
  ·omega
theorem g_7(ho:OrdOk m o)(hf:find os s.ord=some o)(hn:s∉seen)(hl:st.load≤d.room):
 (e_h d o seen st s=[]∧f_H m d o st s=[])↔∃v,FleetMath.step m d os seen st s=.ok (e_K m o seen st s,v):=by
 have hsz:=ho.size;constructor
 ·rintro⟨h1,h2⟩
  have hs:=(l_w ho).1 h2;have hfirst:¬b_v seen s:=fun h=>by unfold e_h at h1;rw[if_pos h]at h1;cases h1
  have hload:a_k o s st.load≤d.room:=by
   unfold e_h at h1;rw[if_neg hfirst]at h1;split at h1
   ·cases h1
   rename_i hx
   cases hd:s.drop with
   |true=>unfold a_k;rw[hd];simp only[if_true];omega
   |false=>
    have:¬d.room<a_k o s st.load:=fun e=>hx ⟨hd,e⟩;omega
  have hm:=g_a hf hn (fun hd=>Decidable.not_not.1 fun e=>hfirst ⟨hd,e⟩) hload hs;refine⟨⟨s,st.left+time m st.at_ (a_e o s).place,b_u m o st s,b_u m o st s+(a_e o s).serv,a_k o s st.load⟩,?_⟩;rw[hm];unfold e_K;rw[if_neg hfirst]
 ·rintro⟨v,h⟩
  obtain⟨o',hm⟩:=step_ok.1 h;have e:o'=o:=by have:=hm.find;rw[hf]at this;injection this with this;exact this.symm
  subst e;have hfirst:¬b_v seen s:=fun h=>h.2 (hm.first h.1);have hsv:=hm.serve;obtain⟨q1,q2,q3⟩:=served_some.1 hsv;obtain⟨_,q4,q5⟩:=beginT_some.1 q1;refine⟨?_,(l_w ho).2 ?_⟩
  ·unfold e_h
   rw[if_neg hfirst,if_neg];rintro⟨_,h2⟩;have:=hm.load;omega
  ·have eb:v.start=b_u m o' st s:=q5
   rw[← eb,←q2];exact hsv
theorem i_z(ho:OrdOk m o)(hl:st.load≤d.room)(h:e_h d o seen st s=[]):(e_K m o seen st s).load≤d.room:=by
 have hsz:=ho.size;unfold e_K;simp only;split
 ·exact hl
 rename_i hfirst
 unfold e_h at h;rw[if_neg hfirst]at h;split at h
 ·cases h
 rename_i hx
 cases hd:s.drop with
 |true=>unfold a_k;rw[hd];simp only[if_true];omega
 |false=>
  have:¬d.room<a_k o s st.load:=fun e=>hx ⟨hd,e⟩;omega
theorem j_Z(hk:∀o∈os,OrdOk m o)(hn:(seen++r).Nodup)(hl:st.load≤d.room):a_1 m d os seen st r=[]↔∃st' vs,run m d os seen st r=.ok (st',vs):=by
 induction r generalizing seen st with
 |nil=>exact⟨fun _=>⟨st,[],rfl⟩,fun _=>rfl⟩
 |cons s r ih=>
  have hs:s∉seen:=by
   rw[List.nodup_append]at hn;exact fun h=>hn.2.2 _ h _ (by simp) rfl
  have hn':((seen++[s])++r).Nodup:=by rw[List.append_assoc];exact hn
  rw[b_c];cases hf:find os s.ord with
  |none=>
   rw[d_j hf,i_6 hf];constructor
   ·intro h;cases h
   ·rintro⟨_,_,h⟩;cases h
  |some o=>
   have ho:=hk o (List.mem_of_find?_eq_some hf);rw[d_k hf];constructor
   ·intro h
    obtain⟨h1,h2⟩:=List.append_eq_nil_iff.1 h;obtain⟨h3,h4⟩:=List.append_eq_nil_iff.1 h1;obtain⟨v,hv⟩:=(g_7 ho hf hs hl).1 ⟨h3,h4⟩;obtain⟨st',vs,hr⟩:=(ih hn' (i_z ho hl h3)).1 h2;rw[hv];simp only;rw[hr];exact⟨st',v::vs,rfl⟩
   ·rintro⟨st',vs,h⟩
    split at h
    ·cases h
    rename_i st1 v hv
    split at h
    ·cases h
    rename_i st2 us hr
    have e:st1=e_K m o seen st s:=by
     obtain⟨o',hm⟩:=step_ok.1 hv;have e:o'=o:=by have:=hm.find;rw[hf]at this;injection this with this;exact this.symm
     subst e;have hfirst:¬b_v seen s:=fun h=>h.2 (hm.first h.1);obtain⟨q1,q2,_⟩:=served_some.1 hm.serve;obtain⟨_,_,q5⟩:=beginT_some.1 q1;rw[hm.st'];unfold e_K;rw[if_neg hfirst,q2];have eb:v.start=b_u m o' st s:=q5;rw[eb]
    subst e;obtain⟨h3,h4⟩:=(g_7 ho hf hs hl).2 ⟨v,hv⟩;rw[h3,h4,(ih hn' (i_z ho hl h3)).2 ⟨_,_,hr⟩];rfl
theorem q_u:b_9 d os xs=[]↔∀i s,xs[i]?=some s→s.drop=false→(find os s.ord).isSome=true→Stp.mk s.ord true∈xs.drop (i+1):=by
 induction xs with
 |nil=>exact⟨fun _ i s h=>(by cases h),fun _=>rfl⟩
 |cons x t ih=>
  rw[b_9,List.append_eq_nil_iff,ih];constructor
  ·rintro⟨h1,h2⟩ i s hs hd hf
   cases i with
   |zero=>
    simp only[List.getElem?_cons_zero,Option.some.injEq]at hs;subst hs;refine Decidable.not_not.1 fun hn=>?_;rw[if_pos ⟨hd,hf,hn⟩]at h1;cases h1
   |succ i=>exact h2 i s (by simpa using hs) hd hf
  ·intro h
   refine⟨?_,fun i s hs hd hf=>h (i+1) s (by simpa using hs) hd hf⟩;rw[if_neg];rintro⟨hd,hf,hn⟩;exact hn (h 0 x rfl hd hf)
theorem q_v(hs:∀o∈os,1≤o.size){l:List Int}(hf:∀x∈l,(find os x).isSome=true):(l.map (FleetMath.sizeOf os)).sum=0↔l=[]:=by
 cases l with
 |nil=>simp
 |cons x t=>
  have h1:=o_6 os hs t
  have h2:1≤FleetMath.sizeOf os x:=by
   obtain⟨o,ho⟩:=Option.isSome_iff_exists.1 (hf x (by simp));unfold FleetMath.sizeOf;rw[ho];exact hs o (List.mem_of_find?_eq_some ho)
  simp only[List.map_cons,List.sum_cons,reduceCtorEq,iff_false];omega
theorem n_2(h:run m d os seen st xs=.ok (st',vs)):∀s∈xs,(find os s.ord).isSome=true:=by
 induction xs generalizing seen st st' vs with
 |nil=>intro s hs;cases hs
 |cons x t ih=>
  rw[b_c]at h;split at h
  ·cases h
  rename_i hx
  split at h
  ·cases h
  rename_i hr
  intro s hs;rcases List.mem_cons.1 hs with rfl|hs
  ·obtain⟨o,hm⟩:=step_ok.1 hx
   rw[hm.find];rfl
  ·exact ih hr s hs
theorem g_8(hk:∀o∈os,OrdOk m o)(hn:xs.Nodup)(h:run m d os [] (st0 d) xs=.ok (st',vs)):b_9 d os xs=[]↔¬0<st'.load:=by
 obtain⟨opn,ho⟩:=r_g h (Open.start os);rw[List.nil_append]at ho;have hfd:=n_2 h;have hsz:∀o∈os,1≤o.size:=fun o hm=>(hk o hm).size.1;have hfo:∀x∈opn,(find os x).isSome=true:=fun x hx=>hfd _ ((ho.mem x).1 hx).1;have hz:=q_v hsz hfo;have hp:=o_6 os hsz opn;rw[ho.sum,q_u];constructor
 ·intro hl
  have:opn=[]:=by
   refine List.eq_nil_iff_forall_not_mem.2 fun x hx=>?_;obtain⟨h1,h2⟩:=(ho.mem x).1 hx;obtain⟨i,hi⟩:=List.mem_iff_getElem?.1 h1;exact h2 (List.mem_of_mem_drop (hl i _ hi rfl (hfd _ h1)))
  rw[hz.2 this];omega
 ·intro hl i s hs hd hf
  have ho':opn=[]:=hz.1 (by omega);have hm:=List.mem_of_getElem? hs;have hsm:Stp.mk s.ord false=s:=by obtain⟨a,b⟩:=s;simp only at hd;rw[hd]
  have hin:Stp.mk s.ord true∈xs:=by
   refine Decidable.not_not.1 fun hx=>?_;have:=(ho.mem s.ord).2 ⟨by rw[hsm];exact hm,hx⟩;rw[ho']at this;cases this
  obtain⟨j,hj⟩:=List.mem_iff_getElem?.1 hin
  have hij:i<j:=by
   rcases Nat.lt_trichotomy i j with h1|h1|h1
   ·exact h1
   ·subst h1
    rw[hs]at hj;injection hj with hj;rw[hj]at hd;cases hd
   ·exfalso
    have e:=l_M hj;rw[e,c_Y]at h;cases hr:run m d os [] (st0 d) (xs.take j)with
    |error z=>rw[hr]at h;cases h
    |ok z=>
     obtain⟨st1,us⟩:=z;rw[hr]at h;simp only at h;rw[b_c]at h;cases hst:FleetMath.step m d os ([]++xs.take j) st1 ⟨s.ord,true⟩with
     |error z=>rw[hst]at h;simp at h
     |ok z=>
      obtain⟨st2,v⟩:=z;obtain⟨o,hm2⟩:=step_ok.1 hst;have hfs:=hm2.first rfl;rw[List.nil_append]at hfs;simp only at hfs;rw[hsm]at hfs;obtain⟨k,hk2⟩:=List.mem_iff_getElem?.1 hfs;rw[List.getElem?_take]at hk2;split at hk2
      ·rename_i hkj
       have hlt:=(List.getElem?_eq_some_iff.1 hs).1;have:=(List.getElem?_inj (i:=i) (j:=k) hlt hn).1 (by rw[hs,hk2]);omega
      ·cases hk2
  rw[List.mem_iff_getElem?];exact⟨j-(i+1),by rw[List.getElem?_drop,show i+1+(j-(i+1))=j by omega];exact hj⟩
theorem m_d{stops:List Stp}(hd:drvE (some m) d=0)(hk:a_V (some m) os=true)(hr0:0≤d.room)(h80:stops.length≤80)(hn:stops.Nodup):f_I m d os stops=[]↔(a_J (some m) d os stops).2.2=0:=by
 have hok:=e_v hk;rw[c_Z hd hk h80];unfold f_I d_W;rw[List.append_eq_nil_iff,j_Z hok (by simpa using hn) (by show(0:Int)≤d.room;exact hr0)];constructor
 ·rintro⟨⟨st',vs,hr⟩,h2⟩
  rw[hr];simp only;rw[if_neg ((g_8 hok hn hr).1 h2)]
 ·intro h
  cases hr:run m d os [] (st0 d) stops with
  |error z=>
   rw[hr]at h;obtain⟨k,e⟩:=z;exact absurd h (s_o hr)
  |ok z=>
   obtain⟨st',vs⟩:=z;rw[hr]at h;simp only at h;split at h
   ·exact absurd h (by show ¬(18:Int)=0;decide)
   rename_i hl
   exact⟨⟨st',vs,rfl⟩,(g_8 hok hn hr).2 hl⟩
end
end AuditMath
namespace AuditMath
section
variable {m : Option Mp} {m' : Mp} {ds : List Drv} {os : List FleetMath.Ord} {p : List Rte} {r : Rte}
theorem e_7(i:Nat):(∃ c,a_v m ds os i p=.ok c)↔∀r∈p,∃d,a_o ds r.drv=some d∧(a_J m d os r.stops).2.2=0:=by
 induction p generalizing i with
 |nil=>exact⟨fun _ r hr=>(by cases hr),fun _=>⟨[],rfl⟩⟩
 |cons r t ih=>
  rw[a_v];constructor
  ·rintro⟨c,h⟩ q hq
   split at h
   ·cases h
   rename_i d hd
   split at h
   ·cases h
   rename_i h0
   split at h
   ·cases h
   rename_i c' hc
   rcases List.mem_cons.1 hq with rfl|hq
   ·exact⟨d,hd,Decidable.not_not.1 h0⟩
   ·exact(ih (i+1)).1 ⟨c',hc⟩ q hq
  ·intro h
   obtain⟨d,hd,h0⟩:=h r (by simp);obtain⟨c,hc⟩:=(ih (i+1)).2 fun q hq=>h q (by simp[hq]);rw[hd];simp only;rw[if_neg (by simpa using h0),hc];exact⟨_,rfl⟩
theorem g_9(hd:∀d∈ds,drvE (some m') d=0)(hk:a_V (some m') os=true)(h80:r.stops.length≤80)(hn:r.stops.Nodup):b_C m' ds os r=[]↔∃d,a_o ds r.drv=some d∧(a_J (some m') d os r.stops).2.2=0:=by
 unfold b_C;cases hf:a_o ds r.drv with
 |none=>exact⟨fun h=>(by cases h),fun⟨d,h,_⟩=>(by cases h)⟩
 |some d=>
  have hdd:=hd d (List.mem_of_find?_eq_some hf);obtain⟨m2,e,hok⟩:=drvE_ok.1 hdd;simp only;rw[m_d hdd hk (by have:=hok.room;omega) h80 hn];exact⟨fun h=>⟨d,rfl,h⟩,fun⟨d',e,h⟩=>by injection e with e;rw[e];exact h⟩
theorem n_3:c_Q p os=[]↔∀o∈os,(b_b p o.id).isSome=true:=by
 unfold c_Q;rw[List.filterMap_eq_nil_iff];constructor
 ·intro h o ho
  have:=h o ho;split at this
  ·rename_i hs;exact hs
  ·cases this
 ·intro h o ho
  rw[if_pos (h o ho)]
theorem audit_none:c_a m ds os p=[]↔(b_K m ds os p).2.2=0∧∀o∈os,(b_b p o.id).isSome=true:=by
 unfold c_a b_K;cases hw:b_y m ds os p with
 |false=>simp
 |true=>
  obtain⟨m',rfl,_,h2,h3,h4,_⟩:=a_K hw;have hst:=k_a h3;simp only[if_true];rw[List.append_eq_nil_iff,List.flatMap_eq_nil_iff,n_3]
  have h1:(∀ r∈p,b_C m' ds os r=[])↔∀r∈p,∃d,a_o ds r.drv=some d∧(a_J (some m') d os r.stops).2.2=0:=
   ⟨fun h r hr=>(g_9 h4 h2 (hst r hr).1 (hst r hr).2).1 (h r hr),fun h r hr=>(g_9 h4 h2 (hst r hr).1 (hst r hr).2).2 (h r hr)⟩
  rw[h1,←e_7 (m:=some m') 0];cases hm:a_v (some m') ds os 0 p with
  |error x=>
   obtain⟨k,e⟩:=x;have:=f_a hm;simp only;constructor
   ·rintro⟨⟨c,h⟩,_⟩;cases h
   ·rintro⟨h,_⟩;exact absurd h this
  |ok c=>simp
end
def b_V(l:List Rte)(d:Int):Option Rte:=l.find? fun r=>decide (r.drv=d)
def c_R(old:List Rte)(q:Rte):Prop:=
 match b_V old q.drv with
 |none=>q.served=0
 |some r=>q.served=r.served∧b_G q=b_G r
instance(old:List Rte)(q:Rte):Decidable (c_R old q):=by unfold c_R;split<;>infer_instance
def b_S(old next:List Rte):Bool:=a_h old && a_h next && decide (∀ r∈old,(b_V next r.drv).isSome=true) && decide (∀ q∈next,c_R old q)
theorem keptP_iff{a b:List Rte}:b_S a b=true↔a_h a=true∧a_h b=true∧(∀ r∈a,(b_V b r.drv).isSome=true)∧∀q∈b,c_R a q:=by
 simp only[b_S,Bool.and_eq_true,decide_eq_true_eq,and_assoc]
theorem c_q{l:List Rte}{d:Int}{r:Rte}(h:b_V l d=some r):r∈l∧r.drv=d:=⟨List.mem_of_find?_eq_some h,by simpa using List.find?_some h⟩
theorem b_I{l:List Rte}{r:Rte}(h:a_h l=true)(hr:r∈l):b_V l r.drv=some r:=by
 rw[b_h,Bool.and_eq_true,decide_eq_true_eq,b_g]at h;have hp:l.Pairwise fun a b=>a.drv<b.drv:=h.2.2.1;clear h;unfold b_V;induction l with
 |nil=>cases hr
 |cons x t ih=>
  rw[List.pairwise_cons]at hp;rw[List.find?_cons];rcases List.mem_cons.1 hr with rfl|hr
  ·simp
  ·have:=hp.1 r hr
   rw[decide_eq_false (by omega)];exact ih hr hp.2
theorem h_a(a:List Rte):b_S a a=a_h a:=by
 cases h:a_h a with
 |false=>unfold b_S;rw[h];rfl
 |true=>
  refine keptP_iff.2 ⟨h,h,fun r hr=>by rw[b_I h hr];rfl,fun q hq=>?_⟩;unfold c_R;rw[b_I h hq];exact⟨rfl,rfl⟩
theorem d_0{a b c:List Rte}(h1:b_S a b=true)(h2:b_S b c=true):b_S a c=true:=by
 obtain⟨ha,hb,h3,h4⟩:=keptP_iff.1 h1;obtain⟨_,hc,h5,h6⟩:=keptP_iff.1 h2;refine keptP_iff.2 ⟨ha,hc,fun r hr=>?_,fun q hq=>?_⟩
 ·obtain⟨r',hr'⟩:=Option.isSome_iff_exists.1 (h3 r hr)
  obtain⟨k1,k2⟩:=c_q hr';rw[← k2];exact h5 r' k1
 ·have k:=h6 q hq
  unfold c_R at k ⊢;cases hx:b_V a q.drv with
  |none=>
   simp only;cases hy:b_V b q.drv with
   |none=>rw[hy]at k;exact k
   |some r'=>
    rw[hy]at k;obtain⟨k1,k2⟩:=c_q hy;have k3:=h4 r' k1;unfold c_R at k3;rw[k2,hx]at k3;rw[k.1];exact k3
  |some r=>
   simp only;obtain⟨r1,r2⟩:=c_q hx;obtain⟨r',hr'⟩:=Option.isSome_iff_exists.1 (h3 r r1);rw[r2]at hr';rw[hr']at k;obtain⟨k1,k2⟩:=c_q hr';have k3:=h4 r' k1;unfold c_R at k3;rw[k2,hx]at k3;exact⟨k.1.trans k3.1,k.2.trans k3.2⟩
theorem q_w{x:Rte}{l:List Rte}{o:Int}{s:Spt}{i:Nat}(h:WithAt l o s i x):b_G (newR x o s)=b_G x:=by
 obtain⟨h1,h2,h3⟩:=h.le';show(putM x.stops o s.pick.toNat s.drop.toNat).take x.served.toNat=x.stops.take x.served.toNat;exact p_c h3 (by omega)
theorem m_e{a q:List Rte}{o:Int}{s:Spt}(hw:b_U a o s=some q):b_S a q=true∧b_S q a=true:=by
 obtain⟨i,x,h,hq⟩:=withP_some hw;have hq':q=a.set i (newR x o s):=hq;subst hq';have hr:=h.right;have hr':=h.right';have hd:=q_w h
 have hmem:∀r∈a,∃y∈a.set i (newR x o s),y.drv=r.drv∧y.served=r.served∧b_G y=b_G r:=by
  intro r hm;obtain⟨j,hj⟩:=List.mem_iff_getElem?.1 hm;by_cases e:j=i
  ·subst e
   rw[h.at_]at hj;injection hj with hj;subst hj;exact⟨newR x o s,List.mem_iff_getElem?.2 ⟨j,List.getElem?_set_self h.lt⟩,rfl,rfl,hd⟩
  ·exact⟨r,List.mem_iff_getElem?.2 ⟨j,by rw[List.getElem?_set_ne (fun k=>e k.symm)];exact hj⟩,rfl,rfl,rfl⟩
 have hmem2:∀y∈a.set i (newR x o s),∃r∈a,y.drv=r.drv∧y.served=r.served∧b_G y=b_G r:=by
  intro y hy;rcases List.mem_or_eq_of_mem_set hy with hy|rfl
  ·exact⟨y,hy,rfl,rfl,rfl⟩
  ·exact⟨x,h.mem,rfl,rfl,hd⟩
 constructor
 ·refine keptP_iff.2 ⟨hr,hr',fun r hm=>?_,fun y hy=>?_⟩
  ·obtain⟨y,hy,e,_⟩:=hmem r hm
   rw[← e,b_I hr' hy];rfl
  ·obtain⟨r,hm,e,e1,e2⟩:=hmem2 y hy
   unfold c_R;rw[e,b_I hr hm];exact⟨e1,e2⟩
 ·refine keptP_iff.2 ⟨hr',hr,fun y hy=>?_,fun r hm=>?_⟩
  ·obtain⟨r,hm,e,_⟩:=hmem2 y hy
   rw[e,b_I hr hm];rfl
  ·obtain⟨y,hy,e,e1,e2⟩:=hmem r hm
   unfold c_R;rw[← e,b_I hr' hy];exact⟨e1.symm,e2.symm⟩
theorem e_8{l:List Stp}{p:Stp→Bool}{n:Nat}(h:∀s∈l.take n,p s=true):(l.filter p).take n=l.take n∧(n≤l.length→n≤(l.filter p).length):=by
 have e:l.filter p=l.take n++(l.drop n).filter p:=by
  conv=>lhs;rw[← List.take_append_drop n l]
  rw[List.filter_append,List.filter_eq_self.2 h]
 rw[e];constructor
 ·rw[List.take_append]
  by_cases hn:n≤l.length
  ·rw[List.length_take,Nat.min_eq_left hn,Nat.sub_self,List.take_zero,List.append_nil,List.take_take,Nat.min_self]
  ·rw[List.take_take,Nat.min_self,List.drop_of_length_le (by omega)]
   simp
 ·intro hn
  rw[List.length_append,List.length_take,Nat.min_eq_left hn];omega
theorem h_J{a:List Rte}{ns:List Int}(hr:a_h a=true):b_S a (a_b a ns)=true:=by
 have hfront:∀r∈a,∀s∈r.stops.take r.served.toNat,(!decide (s.ord∈ns) || a_Q a s.ord)=true:=by
  intro r hm s hs
  have:a_Q a s.ord=true:=by
   unfold a_Q;rw[List.any_eq_true];exact⟨r,hm,List.any_eq_true.2 ⟨s,hs,by simp⟩⟩
  rw[this,Bool.or_true]
 have hright:a_h (a_b a ns)=true:=by
  have h:=hr;rw[b_h,Bool.and_eq_true,decide_eq_true_eq,b_g]at h ⊢;obtain⟨h1,h2,h3,h4⟩:=h;refine⟨by unfold a_b;rw[List.length_map];exact h1,fun q hq=>?_,?_,?_⟩
  ·obtain⟨r,hm,rfl⟩:=List.mem_map.1 hq
   obtain⟨k1,k2,k3⟩:=h2 r hm;refine⟨k1,k2,?_⟩;simp only[a_7,Bool.and_eq_true,decide_eq_true_eq,List.all_eq_true]at k3 ⊢;obtain⟨⟨j1,j2,j3⟩,j4⟩:=k3;refine⟨⟨Nat.le_trans (List.length_filter_le _ _) j1,j2,?_⟩,fun s hs=>j4 s (List.mem_filter.1 hs).1⟩;have:=(e_8 (hfront r hm)).2 (by omega);omega
  ·unfold a_b
   rw[List.pairwise_map];exact h3
  ·rw[List.nil_append]at h4 ⊢
   have hsub:(allS (a_b a ns)).Sublist (allS a):=by
    unfold allS a_b;rw[List.flatMap_map];clear hr hfront h1 h2 h3 h4;generalize (fun s:Stp=>!decide (s.ord∈ns) || a_Q a s.ord)=f;induction a with
    |nil=>exact List.Sublist.refl _
    |cons x t ih=>
     rw[List.flatMap_cons,List.flatMap_cons];exact List.Sublist.append List.filter_sublist ih
   exact hsub.nodup h4
 refine keptP_iff.2 ⟨hr,hright,fun r hm=>?_,fun q hq=>?_⟩
 ·have hm':(⟨r.drv,r.served,r.stops.filter fun s=>!decide (s.ord∈ns) || a_Q a s.ord⟩:Rte)∈a_b a ns:=List.mem_map.2 ⟨r,hm,rfl⟩
  have:=b_I hright hm';simp only at this;rw[this];rfl
 ·obtain⟨r,hm,rfl⟩:=List.mem_map.1 hq
  unfold c_R;simp only;rw[b_I hr hm];exact⟨rfl,(e_8 (hfront r hm)).1⟩
end AuditMath
namespace AuditMath
structure OA (st:St) (k:Nat):Prop where
 left:0≤st.left∧st.left≤1000000+2000000*(k:Int)
 load:-(1000*(k:Int))≤st.load∧st.load≤1000*(k:Int)
section
variable {m : Mp} {d : Drv} {os : List FleetMath.Ord} {seen xs r : List Stp} {st : St} {s : Stp} {o : FleetMath.Ord} {k : Nat} {done X : List Trb}
theorem OA.start(hd:DrvOk m d):OA (st0 d) 0:=by
 have hw:=right_iff.1 hd.win;exact⟨⟨hw.1,by show d.win.fr≤1000000+2000000*(0:Nat);omega⟩,⟨by simp[st0],by simp[st0]⟩⟩
theorem OA.skip(h:OA st k):OA st (k+1):=by
 obtain⟨⟨h1,h2⟩,h3,h4⟩:=h;exact⟨⟨h1,by omega⟩,by omega,by omega⟩
theorem OA.next(h:OA st k)(ho:OrdOk m o)(ht:0≤time m st.at_ (a_e o s).place∧time m st.at_ (a_e o s).place≤1000000):OA (e_K m o seen st s) (k+1):=by
 obtain⟨⟨h1,h2⟩,h3,h4⟩:=h;have hw:=right_iff.1 (h_I ho s);have hsz:=ho.size
 have hsv:0≤(a_e o s).serv∧(a_e o s).serv≤1000000:=by
  unfold a_e;split
  ·exact ho.dropS
  ·exact ho.pickS
 refine⟨⟨?_,?_⟩,?_,?_⟩
 ·show 0≤b_u m o st s+(a_e o s).serv
  unfold b_u;split<;>omega
 ·show b_u m o st s+(a_e o s).serv≤_
  unfold b_u;split<;>omega
 ·show _≤if b_v seen s then st.load else a_k o s st.load
  unfold a_k;split
  ·omega
  ·split<;>omega
 ·show(if b_v seen s then st.load else a_k o s st.load)≤_
  unfold a_k;split
  ·omega
  ·split<;>omega
theorem s_i(h:X=done++a_1 m d os seen st (s::r))(hf:find os s.ord=none):X=(done++[⟨d.id,s.ord,8⟩])++a_1 m d os (seen++[s]) st r:=by
 rw[h,d_j hf,List.append_assoc];rfl
theorem s_j(h:X=done++a_1 m d os seen st (s::r))(hf:find os s.ord=some o){a b:List Trb}(ha:e_h d o seen st s=a)(hb:f_H m d o st s=b):X=((done++a)++b)++a_1 m d os (seen++[s]) (e_K m o seen st s) r:=by
 rw[h,d_k hf,ha,hb,List.append_assoc,List.append_assoc,List.append_assoc]
theorem s_7(h:X=done++a_1 m d os seen st []):X=done:=by rw[h,a_1,List.append_nil]
theorem n_4(h:X=done++b_9 d os (s::r)){a:List Trb}(ha:(if s.drop=false∧(find os s.ord).isSome=true∧Stp.mk s.ord true∉r then [(⟨d.id,s.ord,18⟩:Trb)]else [])=a):X=(done++a)++b_9 d os r:=by
 rw[h,b_9,ha,List.append_assoc]
theorem s_8(h:X=done++b_9 d os []):X=done:=by rw[h,b_9,List.append_nil]
theorem h_K(d:Drv)(o:FleetMath.Ord)(seen:List Stp)(st:St)(s:Stp):(e_h d o seen st s).length≤1:=by unfold e_h;split<;>first|simp|(split<;>simp)
theorem l_x(m:Mp)(d:Drv)(o:FleetMath.Ord)(st:St)(s:Stp):(f_H m d o st s).length≤1:=by unfold f_H;split<;>simp
end
theorem j_0{m:Mp}{d:Drv}{os:List FleetMath.Ord}{xs:List Stp}:∀{seen:List Stp} {st:St},(a_1 m d os seen st xs).length≤2*xs.length:=by
 induction xs with
 |nil=>intro seen st;simp[a_1]
 |cons s r ih=>
  intro seen st;cases hf:find os s.ord with
  |none=>rw[d_j hf];have:=@ih (seen++[s]) st;simp only[List.length_cons];omega
  |some o=>
   rw[d_k hf];have:=@ih (seen++[s]) (e_K m o seen st s);have h1:=h_K d o seen st s;have h2:=l_x m d o st s;simp only[List.length_append,List.length_cons];omega
theorem m_f{d:Drv}{os:List FleetMath.Ord}{xs:List Stp}:(b_9 d os xs).length≤xs.length:=by
 induction xs with
 |nil=>simp[b_9]
 |cons s r ih=>rw[b_9,List.length_append,List.length_cons];split<;>simp<;>omega
theorem m_g{m:Mp}{d:Drv}{os:List FleetMath.Ord}{xs:List Stp}:(f_I m d os xs).length≤3*xs.length:=by
 unfold f_I;have h1:=@j_0 m d os xs [] (st0 d);have h2:=@m_f d os xs;rw[List.length_append];omega
theorem i_A{p:List Rte}{x:Rte}(h:a_h p=true)(hx:x∈p):x.stops.length≤80:=by
 unfold a_h at h;simp only[Bool.and_eq_true,List.all_eq_true]at h;have:=h.1.1.2 x hx;unfold e_y at this;exact(of_decide_eq_true this).2.2.1
theorem f_J{m:Mp}{ds:List Drv}{os:List FleetMath.Ord}{r:Rte}(h:a_o ds r.drv=none):b_C m ds os r=[⟨r.drv,0,8⟩]:=by unfold b_C;rw[h]
theorem f_K{m:Mp}{ds:List Drv}{os:List FleetMath.Ord}{r:Rte}{d:Drv}(h:a_o ds r.drv=some d):b_C m ds os r=f_I m d os r.stops:=by unfold b_C;rw[h]
theorem j_1{m:Option Mp}{ds:List Drv}{os:List FleetMath.Ord}{p:List Rte}(h:b_y m ds os p=false):c_a m ds os p=[⟨0,0,1⟩]:=by unfold c_a;rw[h];rfl
theorem j_2{m:Mp}{ds:List Drv}{os:List FleetMath.Ord}{p:List Rte}(h:b_y (some m) ds os p=true):c_a (some m) ds os p=p.flatMap (b_C m ds os)++c_Q p os:=by unfold c_a;rw[h];rfl
theorem s_k{m:Mp}{ds:List Drv}{os:List FleetMath.Ord}{x:Rte}{r:List Rte}{Y l t z:List Trb}(h:Y=l++(x::r).flatMap (b_C m ds os)++z)(ht:b_C m ds os x=t):Y=(l++t)++r.flatMap (b_C m ds os)++z:=by
 rw[h,List.flatMap_cons,ht];simp[List.append_assoc]
theorem s_l{p:List Rte}{o:FleetMath.Ord}{r:List FleetMath.Ord}{Y l:List Trb}(h:Y=l++c_Q p (o::r)):((b_b p o.id).isSome=true→Y=l++c_Q p r)∧((b_b p o.id).isSome=false→Y=(l++[⟨0,o.id,19⟩])++c_Q p r):=by
 constructor
 ·intro h1
  rw[h];unfold c_Q;rw[List.filterMap_cons];rw[if_pos h1]
 ·intro h1
  rw[h];unfold c_Q;rw[List.filterMap_cons];rw[if_neg (by rw[h1];decide)];simp[List.append_assoc]
end AuditMath
namespace Audit
open AuditMath
theorem num_cases(l:List Rte)(v:Int)(k:Nat):(b_V l v=none∧a_L l v k=-1)∨∃(i:Nat) (r:Rte),l[i]?=some r∧b_V l v=some r∧a_L l v k=((k+i:Nat):Int):=by
 unfold b_V;induction l generalizing k with
 |nil=>exact .inl ⟨rfl,rfl⟩
 |cons x r ih=>
  rw[c_e];by_cases he:x.drv=v
  ·exact .inr ⟨0,x,rfl,by simp[he],by rw[if_pos he,Nat.add_zero]⟩
  ·rw[if_neg he]
   rcases ih (k+1)with⟨h1,h2⟩|⟨i,q,h0,h1,h2⟩
   ·exact .inl ⟨by simp[he,h1],h2⟩
   ·exact .inr ⟨i+1,q,by simpa using h0,by simp[he,h1],by rw[h2];congr 1;omega⟩
theorem h_L{a b:List Rte}(h:¬(a_h a=true∧a_h b=true∧(∀ r∈a,(b_V b r.drv).isSome=true)∧∀q∈b,c_R a q)):b_S a b=false:=by
 cases h1:b_S a b with
 |false=>rfl
 |true=>exact absurd (keptP_iff.1 h1) h
theorem e_L{p:List Rte}{x:Rte}(h:a_h p=true)(hx:x∈p):∃n:Nat,x.served=(n:Int)∧n≤x.stops.length:=by
 unfold a_h at h;simp only[Bool.and_eq_true,List.all_eq_true]at h;have:=h.1.1.2 x hx;unfold e_y at this;obtain⟨_,_,_,h1,h2,_⟩:=of_decide_eq_true this;exact⟨x.served.toNat,by omega,by omega⟩
theorem m_h{a:List Rte}{q:Rte}(h:b_V a q.drv=none):c_R a q↔q.served=0:=by unfold c_R;rw[h]
theorem m_i{a:List Rte}{q r:Rte}(h:b_V a q.drv=some r):c_R a q↔q.served=r.served∧b_G q=b_G r:=by unfold c_R;rw[h]
def s_9:Option Rte→List Stp
 |none=>[]
 |some r=>b_G r
theorem m_j{a:List Rte}{q:Rte}(ha:a_h a=true)(hq:∃n:Nat,q.served=(n:Int)∧n≤q.stops.length):c_R a q↔s_9 (b_V a q.drv)=b_G q:=by
 obtain⟨n,h1,h2⟩:=hq;have hn:(b_G q).length=n:=by unfold b_G;rw[List.length_take,h1];simp;omega
 cases hr:b_V a q.drv with
 |none=>
  rw[m_h hr];constructor
  ·intro h
   have h0:n=0:=by omega
   rw[h0]at hn;exact(List.eq_nil_of_length_eq_zero hn).symm
  ·intro h
   have:b_G q=[]:=h.symm;rw[this]at hn;rw[h1,←hn];rfl
 |some r=>
  rw[m_i hr];obtain⟨k,h3,h4⟩:=e_L ha (c_q hr).1;constructor
  ·exact fun h=>h.2.symm
  ·intro h
   have hd:b_G r=b_G q:=h;refine⟨?_,hd.symm⟩;have h5:(b_G r).length=k:=by unfold b_G;rw[List.length_take,h3];simp;omega
   rw[hd,hn]at h5;rw[h1,h3,h5]
end Audit
end Go.Proofs.YtkpnmpjnpcjohaaGreat
