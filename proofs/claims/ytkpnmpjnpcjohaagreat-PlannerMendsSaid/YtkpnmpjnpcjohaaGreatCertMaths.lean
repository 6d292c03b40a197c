import Derived.Test.YtkpnmpjnpcjohaaGreatPlanMaths
set_option linter.unusedVariables false
namespace Go.Proofs.YtkpnmpjnpcjohaaGreat
open FleetMath PlanMath
namespace CertMath
def a_o(ds:List Drv)(id:Int):Option Drv:=ds.find? fun d=>decide (d.id=id)
def e_P(ds:List Drv):Prop:=ds.Pairwise fun a b=>a.id≠b.id
instance(ds:List Drv):Decidable (e_P ds):=by unfold e_P;infer_instance
def b_y(m:Option Mp)(ds:List Drv)(os:List FleetMath.Ord)(p:List Rte):Bool:=
 m.isSome && decide (ds.length≤8) && a_V m os && a_h p && decide (∀ d∈ds,drvE m d=0) && decide (e_P ds)
def a_v(m:Option Mp)(ds:List Drv)(os:List FleetMath.Ord):Nat→List Rte→Except (Nat×Int) (List (List Vis))
 |_,[]=>.ok []
 |i,r::t=>
  match a_o ds r.drv with
  |none=>.error (i,8)
  |some d=>
   if(a_J m d os r.stops).2.2≠0 then .error (i,(a_J m d os r.stops).2.2)
   else match a_v m ds os (i+1) t with
    | .error x=>.error x
    | .ok c=>.ok ((a_J m d os r.stops).1::c)
def b_K(m:Option Mp)(ds:List Drv)(os:List FleetMath.Ord)(p:List Rte):List (List Vis)×Nat×Int:=
 if b_y m ds os p then
  match a_v m ds os 0 p with
  | .error (i,e)=>([],i,e)
  | .ok c=>(c,0,0)
 else([],0,1)
def e_j(m:Mp)(d:Drv)(os:List FleetMath.Ord):List Stp→St→List Vis→Int
 |_,st,[]=>if 0<st.load then 18 else 0
 |seen,st,v::r=>
  match find os v.stop.ord with
  |none=>8
  |some o=>
   if v.stop.drop=true∧Stp.mk v.stop.ord false∉seen then 17
   else if v.load≠a_k o v.stop st.load∨d.room<a_k o v.stop st.load then 14
   else match a_3 (a_e o v.stop).win (st.left+time m st.at_ (a_e o v.stop).place)with
    |none=>15
    |some b=>
     if v.arrive≠st.left+time m st.at_ (a_e o v.stop).place∨v.start≠b∨v.leave≠b+(a_e o v.stop).serv∨d.win.to<b+(a_e o v.stop).serv then 15
     else e_j m d os (seen++[v.stop]) ⟨(a_e o v.stop).place,v.leave,a_k o v.stop st.load⟩ r
def oneC(m:Mp)(d:Drv)(os:List FleetMath.Ord)(stops:List Stp)(vs:List Vis):Int:=if vs.map (·.stop)=stops then e_j m d os [] (st0 d) vs else 4
def a_N(m:Mp)(ds:List Drv)(os:List FleetMath.Ord):Nat→List Rte→List (List Vis)→Nat×Int
 |i,r::t,v::c=>
  match a_o ds r.drv with
  |none=>(i,8)
  |some d=>if oneC m d os r.stops v≠0 then(i,oneC m d os r.stops v)else a_N m ds os (i+1) t c
 |_,_,_=>(0,0)
def d_l(m:Option Mp)(ds:List Drv)(os:List FleetMath.Ord)(p:List Rte)(c:List (List Vis)):Nat×Int:=
 if b_y m ds os p then
  match m with
  |none=>(0,1)
  |some m'=>if c.length=p.length then a_N m' ds os 0 p c else(0,4)
 else(0,1)
theorem m_t(m:Mp)(d:Drv)(os:List FleetMath.Ord)(seen:List Stp)(st:St)(v:Vis)(r:List Vis):e_j m d os seen st (v::r)=
 match find os v.stop.ord with
 |none=>8
 |some o=>
  if v.stop.drop=true∧Stp.mk v.stop.ord false∉seen then 17
  else if v.load≠a_k o v.stop st.load∨d.room<a_k o v.stop st.load then 14
  else match a_3 (a_e o v.stop).win (st.left+time m st.at_ (a_e o v.stop).place)with
   |none=>15
   |some b=>
    if v.arrive≠st.left+time m st.at_ (a_e o v.stop).place∨v.start≠b∨v.leave≠b+(a_e o v.stop).serv∨d.win.to<b+(a_e o v.stop).serv then 15
    else e_j m d os (seen++[v.stop]) ⟨(a_e o v.stop).place,v.leave,a_k o v.stop st.load⟩ r:=rfl
theorem q_D{m:Mp}{d:Drv}{os:List FleetMath.Ord}{seen:List Stp}{st:St}{s:Stp}{e:Int}(h:FleetMath.step m d os seen st s=.error e):e≠0:=by
 unfold FleetMath.step at h;split at h
 ·injection h with h;omega
 split at h
 ·injection h with h;omega
 split at h
 ·injection h with h;omega
 split at h
 ·injection h with h;omega
 split at h
 ·injection h with h;omega
 cases h
theorem s_o{m:Mp}{d:Drv}{os:List FleetMath.Ord}{seen:List Stp}{st:St}{xs:List Stp}{k:Nat}{e:Int}(h:run m d os seen st xs=.error (k,e)):¬e=0:=by
 induction xs generalizing seen st with
 |nil=>rw[f_7]at h;cases h
 |cons s r ih=>
  rw[b_c]at h;split at h
  ·rename_i hs
   injection h with h;injection h with _ h;rw[← h];exact q_D hs
  ·split at h
   ·rename_i hr
    injection h with h;rw[h]at hr;exact ih hr
   ·cases h
theorem a_K{m:Option Mp}{ds:List Drv}{os:List FleetMath.Ord}{p:List Rte}(h:b_y m ds os p=true):∃m',m=some m'∧ds.length≤8∧a_V m os=true∧a_h p=true∧(∀ d∈ds,drvE m d=0)∧e_P ds:=by
 simp only[b_y,Bool.and_eq_true,decide_eq_true_eq]at h;obtain⟨⟨⟨⟨⟨h1,h2⟩,h3⟩,h4⟩,h5⟩,h6⟩:=h;obtain⟨m',rfl⟩:=Option.isSome_iff_exists.1 h1;exact⟨m',rfl,h2,h3,h4,h5,h6⟩
theorem k_a{p:List Rte}(h:a_h p=true):∀r∈p,r.stops.length≤80∧r.stops.Nodup:=by
 intro r hr;refine⟨c_0 (a_R h hr),?_⟩;rw[b_h,Bool.and_eq_true,b_g]at h;have hn:=h.2.2.2;rw[List.nil_append]at hn;exact List.Sublist.nodup (List.sublist_flatten_of_mem (List.mem_map.2 ⟨r,hr,rfl⟩) |>.trans (by rw[allS,List.flatMap_def];exact List.Sublist.refl _)) hn
theorem f_a{m:Option Mp}{ds:List Drv}{os:List FleetMath.Ord}{p:List Rte}{i k:Nat}{e:Int}(h:a_v m ds os i p=.error (k,e)):¬e=0:=by
 induction p generalizing i with
 |nil=>rw[a_v]at h;cases h
 |cons r t ih=>
  rw[a_v]at h;split at h
  ·injection h with h;injection h with _ h;omega
  ·split at h
   ·rename_i hne
    injection h with h;injection h with _ h;rw[← h];exact hne
   ·split at h
    ·rename_i hr
     injection h with h;rw[h]at hr;exact ih hr
    ·cases h
theorem o_g(m:Option Mp)(d:Drv)(os:List FleetMath.Ord)(stops:List Stp):(a_J m d os stops).1.length≤80:=by
 by_cases hb:drvE m d≠0∨a_V m os=false∨80<stops.length
 ·rw[e_w hb];exact Nat.zero_le _
 ·unfold a_J
  split
  ·exact Nat.zero_le _
  ·rw[if_neg hb]
   unfold d_W;split
   ·exact Nat.zero_le _
   ·rename_i hr
    have:=k_K hr;split
    ·exact Nat.zero_le _
    ·simp only at *;omega
section
variable {m : Option Mp} {ds : List Drv} {os : List FleetMath.Ord} {p : List Rte} {k : Nat} {r : Rte} {d : Drv} {done : List (List Vis)} {X : Except (Nat × Int) (List (List Vis))}
def pre(done:List (List Vis)):Except (Nat×Int) (List (List Vis))→Except (Nat×Int) (List (List Vis))
 | .error x=>.error x
 | .ok c=>.ok (done++c)
theorem o_h(x:Except (Nat×Int) (List (List Vis))):x=pre [] x:=by cases x<;>rfl
theorem s_p(h:X=pre done (a_v m ds os k (p.drop k)))(hp:p.drop k=r::p.drop (k+1))(hd:a_o ds r.drv=none):X=.error (k,8):=by
 rw[h,hp,a_v,hd];rfl
theorem q_E(h:X=pre done (a_v m ds os k (p.drop k)))(hp:p.drop k=r::p.drop (k+1))(hd:a_o ds r.drv=some d){e:Int}(he:(a_J m d os r.stops).2.2=e)(hn:e≠0):X=.error (k,e):=by
 subst he;rw[h,hp,a_v,hd];simp only;rw[if_pos hn];rfl
theorem s_q(h:X=pre done (a_v m ds os k (p.drop k)))(hp:p.drop k=r::p.drop (k+1))(hd:a_o ds r.drv=some d){vs:List Vis}{j:Nat}(he:a_J m d os r.stops=(vs,j,0)):X=pre (done++[vs]) (a_v m ds os (k+1) (p.drop (k+1))):=by
 rw[h,hp,a_v,hd];simp only;rw[he];simp only;rw[if_neg (by simp)];cases a_v m ds os (k+1) (p.drop (k+1))with
 |error x=>rfl
 |ok c=>simp[pre]
theorem t_b(h:X=pre done (a_v m ds os k (p.drop k)))(hk:p.length≤k):X=.ok done:=by
 rw[h,List.drop_of_length_le hk,a_v];simp[pre]
theorem q_F(h:b_y m ds os p=false):b_K m ds os p=([],0,1):=by unfold b_K;rw[h];rfl
theorem o_i{e:Int}(h:b_y m ds os p=true)(hx:a_v m ds os 0 p=.error (k,e)):b_K m ds os p=([],k,e):=by unfold b_K;rw[h,hx];rfl
theorem q_G{c:List (List Vis)}(h:b_y m ds os p=true)(hx:a_v m ds os 0 p=.ok c):b_K m ds os p=(c,0,0):=by unfold b_K;rw[h,hx];rfl
end
section
variable {m : Mp} {ds : List Drv} {os : List FleetMath.Ord} {p : List Rte} {k : Nat} {r : Rte} {d : Drv} {c : List (List Vis)} {v : List Vis} {X : Nat × Int}
theorem s_r(h:X=a_N m ds os k (p.drop k) (c.drop k))(hp:p.drop k=r::p.drop (k+1))(hc:c.drop k=v::c.drop (k+1))(hd:a_o ds r.drv=none):X=(k,8):=by
 rw[h,hp,hc,a_N,hd]
theorem q_H(h:X=a_N m ds os k (p.drop k) (c.drop k))(hp:p.drop k=r::p.drop (k+1))(hc:c.drop k=v::c.drop (k+1))(hd:a_o ds r.drv=some d){e:Int}(he:oneC m d os r.stops v=e)(hn:e≠0):X=(k,e):=by
 subst he;rw[h,hp,hc,a_N,hd];simp only;rw[if_pos hn]
theorem s_s(h:X=a_N m ds os k (p.drop k) (c.drop k))(hp:p.drop k=r::p.drop (k+1))(hc:c.drop k=v::c.drop (k+1))(hd:a_o ds r.drv=some d)(he:oneC m d os r.stops v=0):X=a_N m ds os (k+1) (p.drop (k+1)) (c.drop (k+1)):=by
 rw[h,hp,hc,a_N,hd];simp only;rw[if_neg (by simpa using he)]
theorem t_c(h:X=a_N m ds os k (p.drop k) (c.drop k))(hk:p.length≤k):X=(0,0):=by
 rw[h,List.drop_of_length_le hk,a_N];simp
theorem i_C{m:Option Mp}(h:b_y m ds os p=false):d_l m ds os p c=(0,1):=by unfold d_l;rw[h];rfl
theorem h_d(h:b_y (some m) ds os p=true)(hl:c.length≠p.length):d_l (some m) ds os p c=(0,4):=by unfold d_l;rw[h];simp[hl]
theorem i_D(h:b_y (some m) ds os p=true)(hl:c.length=p.length):d_l (some m) ds os p c=a_N m ds os 0 p c:=by unfold d_l;rw[h];simp[hl]
end
end CertMath
namespace CertMath
open GeoMath
def a_O(m:Mp)(d:Drv)(os:List FleetMath.Ord)(seen:List Stp)(st:St)(v:Vis):Except Int St:=
 match find os v.stop.ord with
 |none=>.error 8
 |some o=>
  if v.stop.drop=true∧Stp.mk v.stop.ord false∉seen then .error 17
  else if v.load≠a_k o v.stop st.load∨d.room<a_k o v.stop st.load then .error 14
  else match a_3 (a_e o v.stop).win (st.left+time m st.at_ (a_e o v.stop).place)with
   |none=>.error 15
   |some b=>
    if v.arrive≠st.left+time m st.at_ (a_e o v.stop).place∨v.start≠b∨v.leave≠b+(a_e o v.stop).serv∨d.win.to<b+(a_e o v.stop).serv then .error 15
    else .ok ⟨(a_e o v.stop).place,v.leave,a_k o v.stop st.load⟩
section
variable {m : Mp} {d : Drv} {os : List FleetMath.Ord} {seen : List Stp} {st st' : St} {x : Vis} {r vs : List Vis} {v e : Int} {o : FleetMath.Ord} {b : Int} {k : Nat} {stops : List Stp}
theorem f_b:e_j m d os seen st (x::r)=match a_O m d os seen st x with| .error e=>e| .ok st'=>e_j m d os (seen++[x.stop]) st' r:=by
 rw[m_t];unfold a_O;cases find os x.stop.ord with
 |none=>rfl
 |some o=>
  simp only;split
  ·rfl
  split
  ·rfl
  cases a_3 (a_e o x.stop).win (st.left+time m st.at_ (a_e o x.stop).place)with
  |none=>rfl
  |some b=>
   simp only;split<;>rfl
theorem k_b(h:find os x.stop.ord=none):a_O m d os seen st x=.error 8:=by unfold a_O;rw[h]
theorem i_E(h:find os x.stop.ord=some o)(h1:x.stop.drop=true)(h2:Stp.mk x.stop.ord false∉seen):a_O m d os seen st x=.error 17:=by unfold a_O;rw[h];simp only;rw[if_pos ⟨h1,h2⟩]
theorem k_c(h:find os x.stop.ord=some o)(h1:¬(x.stop.drop=true∧Stp.mk x.stop.ord false∉seen))(h2:x.load≠a_k o x.stop st.load∨d.room<a_k o x.stop st.load):a_O m d os seen st x=.error 14:=by
 unfold a_O;rw[h];simp only;rw[if_neg h1,if_pos h2]
theorem k_d(h:find os x.stop.ord=some o)(h1:¬(x.stop.drop=true∧Stp.mk x.stop.ord false∉seen))(h2:¬(x.load≠a_k o x.stop st.load∨d.room<a_k o x.stop st.load))(h3:a_3 (a_e o x.stop).win (st.left+time m st.at_ (a_e o x.stop).place)=none):a_O m d os seen st x=.error 15:=by
 unfold a_O;rw[h];simp only;rw[if_neg h1,if_neg h2,h3]
theorem i_F(h:find os x.stop.ord=some o)(h1:¬(x.stop.drop=true∧Stp.mk x.stop.ord false∉seen))(h2:¬(x.load≠a_k o x.stop st.load∨d.room<a_k o x.stop st.load))(h3:a_3 (a_e o x.stop).win (st.left+time m st.at_ (a_e o x.stop).place)=some b)
 (h4:x.arrive≠st.left+time m st.at_ (a_e o x.stop).place∨x.start≠b∨x.leave≠b+(a_e o x.stop).serv∨d.win.to<b+(a_e o x.stop).serv):a_O m d os seen st x=.error 15:=by
 unfold a_O;rw[h];simp only;rw[if_neg h1,if_neg h2,h3];simp only;rw[if_pos h4]
theorem o_j(h:find os x.stop.ord=some o)(h1:¬(x.stop.drop=true∧Stp.mk x.stop.ord false∉seen))(h2:¬(x.load≠a_k o x.stop st.load∨d.room<a_k o x.stop st.load))(h3:a_3 (a_e o x.stop).win (st.left+time m st.at_ (a_e o x.stop).place)=some b)
 (h4:¬(x.arrive≠st.left+time m st.at_ (a_e o x.stop).place∨x.start≠b∨x.leave≠b+(a_e o x.stop).serv∨d.win.to<b+(a_e o x.stop).serv)):a_O m d os seen st x=.ok ⟨(a_e o x.stop).place,x.leave,a_k o x.stop st.load⟩:=by
 unfold a_O;rw[h];simp only;rw[if_neg h1,if_neg h2,h3];simp only;rw[if_neg h4]
structure OB (st:St) (k:Nat):Prop where
 left:0≤st.left∧st.left≤2000000
 load:-(1000*(k:Int))≤st.load∧st.load≤1000*(k:Int)
theorem OB.start(hd:DrvOk m d):OB (st0 d) 0:=by
 have hw:=right_iff.1 hd.win;exact⟨⟨hw.1,by show d.win.fr≤2000000;omega⟩,⟨by simp[st0],by simp[st0]⟩⟩
theorem f_O(ho:OrdOk m o)(s:Stp):0≤(a_e o s).serv∧(a_e o s).serv≤1000000:=by
 unfold a_e;split
 ·exact ho.dropS
 ·exact ho.pickS
theorem OB.next(h:OB st k)(ho:∀o∈os,OrdOk m o)(hf:a_O m d os seen st x=.ok st'):OB st' (k+1):=by
 unfold a_O at hf;split at hf
 ·cases hf
 rename_i o hfo
 have hk:=ho o (List.mem_of_find?_eq_some hfo);split at hf
 ·cases hf
 split at hf
 ·cases hf
 split at hf
 ·cases hf
 rename_i b hb
 split at hf
 ·cases hf
 rename_i h4
 injection hf with hf;subst hf;have h3:x.leave=b+(a_e o x.stop).serv:=Decidable.not_not.1 fun e=>h4 (Or.inr (Or.inr (Or.inl e)));have hw:=right_iff.1 (has_iff.1 (c_c hb).1).1;have hb:=c_c hb;have hsz:=hk.size;have hsv:=f_O hk x.stop;refine⟨⟨?_,?_⟩,?_⟩
 ·simp only[h3];omega
 ·simp only[h3];omega
 ·have:=h.load
  simp only[a_k];split<;>constructor<;>omega
theorem q_I(h:v=e_j m d os seen st (x::r))(hf:a_O m d os seen st x=.error e):v=e:=by rw[h,f_b,hf]
theorem s_t(h:v=e_j m d os seen st (x::r))(hf:a_O m d os seen st x=.ok st'):v=e_j m d os (seen++[x.stop]) st' r:=by rw[h,f_b,hf]
theorem t_d(h:v=e_j m d os seen st []):v=if 0<st.load then 18 else 0:=h
theorem s_u(h:vs.map (·.stop)≠stops):oneC m d os stops vs=4:=by unfold oneC;rw[if_neg h]
theorem s_v(h:vs.map (·.stop)=stops):oneC m d os stops vs=e_j m d os (stops.take 0) (st0 d) (vs.drop 0):=by unfold oneC;rw[if_pos h];rfl
end
end CertMath
end Go.Proofs.YtkpnmpjnpcjohaaGreat
